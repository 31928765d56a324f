/-
  Joined: PlMr1, PlDr1, PlDr2, RegL, PlPd, PlPl, PlLm, PlDs, PlLawX.
-/
import Derived.Test.YtipmjobhegpdgaaGreatDoorPlD9
import Derived.Test.YtipmjobhegpdgaaGreatDoorSource
import Derived.Test.YtipmjobhegpdgaaGreatDoorPlF5
import Derived.Test.YtipmjobhegpdgaaGreatDoorReg
import Derived.Deep.DeepCutAuto
import Derived.Test.YtipmjobhegpdgaaGreatDoorPlD0
import Derived.Test.YtipmjobhegpdgaaGreatDoorPlBgA
namespace Go.Proofs.YtipmjobhegpdgaaGreatDoor
open Go Go.RowKit Go.Deep

set_option maxRecDepth 100000 in
set_option maxHeartbeats 1000000 in
theorem mhas_any (a : Option Addr) (n cap : Nat) (f : Nat → Int) (x : Int) (w : World) (h : IsAt a n f w) (hn : n ≤ 1048576) :
    Calls Tryz.prog 18 #[.slice a n cap, .int .i64 x] w fun e w' => e = .returned (.bool (dB (Pl.Has n f x))) ∧ w' = w := by
  have H := Lib.hid h
  clear h
  go_enter Tryz.func18, Tryz.ntmps18
  go_wp2_with fail
  go_loopw [5] (fun iv wr => ∃ (i : Nat), i ≤ n ∧ iv = .int .i64 i ∧ wr = w ∧ Hid (∀ j, j < i → f j ≠ x)) (fun iv _ => n - (intOf iv).toNat)
  case atStart => exact ⟨0, Nat.zero_le _, rfl, rfl, fun j hj => absurd hj (Nat.not_lt_zero _)⟩
  case round =>
    obtain ⟨i, hi, rfl, rfl, hP⟩ := hrel
    by_cases hlt : i < n
    · have hltz : (i : Int) < (n : Int) := by omega
      obtain ⟨b, e, c0⟩ := H.out.at1 hlt
      subst e
      by_cases c : f i = x
      · have HC : Hid (dB (Pl.Has n f x) = true) := dB_tt ⟨i, hlt, c⟩
        have c' : (f i == x) = true := by simp [c]
        clear c
        go_wp2_with fail
        go_ret
        exact ⟨by rw [HC.out]; rfl, rfl⟩
      · have HC := Lib.hid c
        have c' : (f i == x) = false := by simp [c]
        clear c
        go_wp2_with fail
        go_roundw
        case rel => exact ⟨i + 1, by omega, by go_num, by trivial, fun j hj => by
          by_cases e : j = i
          · subst e; exact HC.out
          · exact hP.out j (by omega)⟩
        case measure => simp [intOf]; omega
    · obtain rfl : i = n := by omega
      have HC : Hid (dB (Pl.Has i f x) = false) := dB_ff (fun ⟨j, hj, e⟩ => hP.out j hj e)
      go_wp2_with fail
      go_ret
      exact ⟨by rw [HC.out]; rfl, rfl⟩
set_option maxRecDepth 100000 in
set_option maxHeartbeats 2000000 in
theorem mcopy_any (a : Option Addr) (m cap : Nat) (f : Nat → Int) (w : World) (h : IsAt a m f w) (hm : m ≤ 1000) (ha : a = none → cap = 0) :
    Calls Tryz.prog 17 #[.slice a m cap] w fun e w' => (∃ g c, e = .returned (.slice (some ⟨g, 0, none⟩) m c) ∧ w.heap.size ≤ g ∧ IsAt (some ⟨g, 0, none⟩) m f w') ∧ Below w.heap.size w w' := by
  obtain ⟨i0, hi, hz0, hz1, hz2⟩ := info_parts yinfo_i64
  have H := Lib.hid h
  clear h
  obtain ⟨ab, hab⟩ : ∃ ab : Addr, (a = some ab ∨ (a = none ∧ m = 0)) ∧ ∀ j, j < m → w.cell? (ab.add j) = some (.int .i64 (f j)) := by
    by_cases hm0 : m = 0
    · subst hm0
      cases a with
      | none => exact ⟨⟨0, 0, none⟩, Or.inr ⟨rfl, rfl⟩, fun j hj => absurd hj (Nat.not_lt_zero _)⟩
      | some b => exact ⟨b, Or.inl rfl, fun j hj => absurd hj (Nat.not_lt_zero _)⟩
    · obtain ⟨b, e, _⟩ := H.out.at1 (show 0 < m by omega)
      refine ⟨_, Or.inl e, fun j hj => ?_⟩
      obtain ⟨b', e', c'⟩ := H.out.at1 hj
      rw [e] at e'
      cases e'
      rw [Addr.add_lit]
      simpa using c'
  obtain ⟨ho, hcl⟩ := hab
  rcases ho with rfl | ⟨rfl, rfl⟩
  case inr =>
    obtain rfl := ha rfl
    go_enter Tryz.func17, Tryz.ntmps17
    go_wp2_with fail
    go_ret
    exact ⟨⟨w.heap.size, ⟨0, rfl⟩, Nat.le_refl _, Or.inl rfl⟩, (Below.refl _ _).alloc (Nat.le_refl _) _⟩
  have HC := Lib.hid hcl
  clear hcl
  go_enter Tryz.func17, Tryz.ntmps17
  go_wp2_with (at_builtin; refine wpList_append_own _ rfl _ _ 23 rfl w.heap.size 2 i0 (.int .i64 0) 1 8 Tryz.underlying23 hi hz0 hz1 hz2 rfl (by decide) _ _ _ rfl (World.ownsRow_made w #[] 0 (Nat.le_refl _) (Nat.zero_le _) rfl) ab m cap ((List.range m).map fun j => Value.int .i64 (f j)) rfl ?qc1 ?qc2 ?qc3 ?qc4 ?qc5 ?qc6 ?_)
  case qc1 => simp
  case qc2 =>
    intro j u hj
    have hjn : j < m := by
      have := (List.getElem?_eq_some_iff.1 hj).1
      simpa using this
    refine Lib.cell?_alloc_some _ ?_
    rw [HC.out j hjn, ← hj]
    simp [hjn]
  case qc3 =>
    intro u hu
    obtain ⟨x, _, rfl⟩ := List.mem_map.1 hu
    rfl
  case qc4 => unfold maxLen; omega
  case qc5 => omega
  case qc6 => simp
  intro v' w1 hown hgrow hnil
  have HB : Hid (Below w.heap.size w w1) := ((Below.refl _ w).alloc (Nat.le_refl _) _).grown hgrow (by simp) (by intro k hk; simp [Value.ownBlock] at hk; omega)
  rcases hown.2 with ⟨e1, _⟩ | ⟨g, c, cur, e1, h2, h3, _, _, h6, h7⟩
  · exact absurd e1 (by simpa using hnil)
  · subst e1
    have HAT : Hid (IsAt (some ⟨g, 0, none⟩) m f w1) := Or.inr ⟨g, rfl, fun j hj => by
      have e2 : (cur.toList.take (m * 1))[j]? = some (.int .i64 (f j)) := by
        rw [h7]
        simp [hj]
      rw [List.getElem?_take_of_lt (by omega), Array.getElem?_toList] at e2
      rw [cell_of_row w1 g j cur _ (0, 0) h3, e2]⟩
    clear hown hgrow hnil h3 h6 h7
    go_wp2_with fail
    go_ret
    exact ⟨⟨g, c, rfl, h2, HAT.out⟩, HB.out⟩
namespace Pl
/-- More shut rows leave no more places wet. -/
theorem dry_more {n : Plan} {m m2 : Nat} {f f2 : Nat → Int} (h2 : AskOk n m f → AskOk n m2 f2) (hs : AskOk n m f → ∀ i, In m f i → In m2 f2 i) {v : Nat} (hv : v ∈ dry n m f) : v ∈ dry n m2 f2 := by
  unfold dry at hv
  split at hv
  · rename_i hb
    have ha := dB_iff.1 hb
    have h3 := List.mem_filter.1 hv
    unfold dry
    rw [dB_tt (h2 ha)]
    exact List.mem_filter.2 ⟨h3.1, dB_tt (fun hw => (dB_iff.1 h3.2) (hw.mono (hs ha)))⟩
  · simp at hv
theorem sum_filter {H : Nat → Int} {p q : Nat → Bool} {l : List Nat} (hp : ∀ v, v ∈ l → 0 ≤ H v) (h : ∀ v, v ∈ l → p v = true → q v = true) : ((l.filter p).map H).sum ≤ ((l.filter q).map H).sum := by
  induction l with
  | nil => simp
  | cons x l ih =>
    have h1 := ih (fun v hv => hp v (List.mem_cons_of_mem _ hv)) (fun v hv => h v (List.mem_cons_of_mem _ hv))
    have h2 := hp x (List.mem_cons_self ..)
    have h3 := h x (List.mem_cons_self ..)
    cases ep : p x with
    | true => rw [List.filter_cons_of_pos ep, List.filter_cons_of_pos (h3 ep)]; simp; omega
    | false =>
      rw [List.filter_cons_of_neg (by simp [ep])]
      cases eq : q x with
      | true => rw [List.filter_cons_of_pos eq]; simp; omega
      | false => rw [List.filter_cons_of_neg (by simp [eq])]; exact h1
theorem homes_more {n : Plan} {m m2 : Nat} {f f2 : Nat → Int} (h2 : AskOk n m f → AskOk n m2 f2) (hs : AskOk n m f → ∀ i, In m f i → In m2 f2 i) (hr : Right n) : homes n m f ≤ homes n m2 f2 := by
  unfold homes sumH
  by_cases ha : AskOk n m f
  · have e1 : dry n m f = dryL n (In m f) := by unfold dry; rw [dB_tt ha]; rfl
    have e2 : dry n m2 f2 = dryL n (In m2 f2) := by unfold dry; rw [dB_tt (h2 ha)]; rfl
    rw [e1, e2]
    refine sum_filter (fun v hv => (hr.hs v (List.mem_range.1 hv)).1) (fun v _ hd => ?_)
    exact dB_tt (fun hw => (dB_iff.1 hd) (hw.mono (hs ha)))
  · have e1 : dry n m f = [] := by unfold dry; rw [dB_ff ha]; rfl
    rw [e1]
    unfold dry
    split
    · simp only [List.map_nil, List.sum_nil]
      have := sum_filter (H := n.H) (p := fun _ => false) (q := fun v => dB (¬ Wet n (In m2 f2) v)) (l := List.range n.hn) (fun v hv => (hr.hs v (List.mem_range.1 hv)).1) (fun _ _ x => by cases x)
      have e0 : (List.range n.hn).filter (fun _ => false) = [] := List.filter_eq_nil_iff.2 (by simp)
      rw [e0] at this
      simpa [dryL] using this
    · simp
/-- The rows of both, below i. -/
noncomputable def bothL (n : Plan) (m : Nat) (f : Nat → Int) (mo : Nat → Bool) (i : Nat) : List Nat := (List.range i).filter fun r => dB (In m f r) || (n.R (r * 3 + 2) == 1 && mo r)
theorem bothL_in {n : Plan} {m : Nat} {f : Nat → Int} {mo : Nat → Bool} {i : Nat} (h : (dB (In m f i) || (n.R (i * 3 + 2) == 1 && mo i)) = true) : bothL n m f mo (i + 1) = bothL n m f mo i ++ [i] := by
  unfold bothL; rw [List.range_succ, List.filter_append, List.filter_cons_of_pos (p := fun r => dB (In m f r) || (n.R (r * 3 + 2) == 1 && mo r)) h]; rfl
theorem bothL_out {n : Plan} {m : Nat} {f : Nat → Int} {mo : Nat → Bool} {i : Nat} (h : (dB (In m f i) || (n.R (i * 3 + 2) == 1 && mo i)) = false) : bothL n m f mo (i + 1) = bothL n m f mo i := by
  unfold bothL; rw [List.range_succ, List.filter_append, List.filter_cons_of_neg (p := fun r => dB (In m f r) || (n.R (r * 3 + 2) == 1 && mo r)) (by rw [h]; simp)]; simp
theorem bothL_len {n : Plan} {m : Nat} {f : Nat → Int} {mo : Nat → Bool} {i : Nat} : (bothL n m f mo i).length ≤ i := by
  have := List.length_filter_le (fun r => dB (In m f r) || (n.R (r * 3 + 2) == 1 && mo r)) (List.range i)
  simpa [bothL] using this
theorem both_in {n : Plan} {m : Nat} {f : Nat → Int} {mo : Nat → Bool} (h : SetOk n m f) (i : Nat) (hi : In m f i) : In (bothL n m f mo n.rn).length (fun j => (((bothL n m f mo n.rn).getD j 0 : Nat) : Int)) i := by
  have hl : i < n.rn := by
    obtain ⟨j, hj, e⟩ := hi
    have := (h.rise j hj).1
    omega
  have hm : i ∈ bothL n m f mo n.rn := List.mem_filter.2 ⟨List.mem_range.2 hl, by rw [dB_tt hi]; rfl⟩
  obtain ⟨j, hj, e⟩ := List.getElem_of_mem hm
  exact ⟨j, hj, by simp [List.getD_eq_getElem?_getD, hj, e]⟩
theorem getD_mem {l : List Nat} {j : Nat} (hj : j < l.length) : l.getD j 0 ∈ l := by
  rw [List.getD_eq_getElem?_getD, List.getElem?_eq_getElem hj]
  exact List.getElem_mem hj
theorem both_at {n : Plan} {m : Nat} {f : Nat → Int} {mo : Nat → Bool} {j : Nat} (hj : j < (bothL n m f mo n.rn).length) : (bothL n m f mo n.rn).getD j 0 < n.rn ∧ (dB (In m f ((bothL n m f mo n.rn).getD j 0)) || (n.R ((bothL n m f mo n.rn).getD j 0 * 3 + 2) == 1 && mo ((bothL n m f mo n.rn).getD j 0))) = true := by
  have hm := getD_mem hj
  generalize (bothL n m f mo n.rn).getD j 0 = r at hm ⊢
  unfold bothL at hm
  have h1 := List.mem_filter.1 hm
  exact ⟨List.mem_range.1 h1.1, h1.2⟩
theorem both_ask {n : Plan} {m : Nat} {f : Nat → Int} {mo : Nat → Bool} (h : AskOk n m f) : AskOk n (bothL n m f mo n.rn).length (fun j => (((bothL n m f mo n.rn).getD j 0 : Nat) : Int)) := by
  have hr := h.right.r
  refine ⟨by have := bothL_len (n := n) (m := m) (f := f) (mo := mo) (i := n.rn); omega, h.right, ⟨fun j hj => ⟨?_, fun h0 => ?_⟩, fun j hj => ?_⟩⟩
  · have := (both_at hj).1
    show (0 : Int) ≤ _ ∧ _ < (n.rn : Int)
    omega
  · have hp : (bothL n m f mo n.rn).Pairwise (· < ·) := List.Pairwise.filter _ List.pairwise_lt_range
    have := List.pairwise_iff_getElem.1 hp (j - 1) j (by omega) hj (by omega)
    have e1 : (bothL n m f mo n.rn).getD (j - 1) 0 = (bothL n m f mo n.rn)[j - 1]'(by omega) := by rw [List.getD_eq_getElem?_getD, List.getElem?_eq_getElem (by omega)]; rfl
    have e2 : (bothL n m f mo n.rn).getD j 0 = (bothL n m f mo n.rn)[j] := by rw [List.getD_eq_getElem?_getD, List.getElem?_eq_getElem hj]; rfl
    simp only [e1, e2]
    omega
  · have h1 := (both_at hj).2
    generalize (bothL n m f mo n.rn).getD j 0 = r at h1 ⊢
    show n.R (((r : Nat) : Int).toNat * 3 + 2) = 1
    have e : ((r : Nat) : Int).toNat = r := by omega
    rw [e]
    rw [Bool.or_eq_true] at h1
    rcases h1 with x | x
    · obtain ⟨k, hk, ek⟩ := dB_iff.1 x
      have := h.set.good k hk
      rw [ek, e] at this
      exact this
    · simp at x; exact x.1
end Pl
end Go.Proofs.YtipmjobhegpdgaaGreatDoor
namespace Go.Proofs.YtipmjobhegpdgaaGreatDoor
open Go Go.RowKit Go.Deep

theorem d_far {B n size : Nat} {e : TypeId} {v : Value} {xs : List Value} {W W' : World} (h : W.ownsRow B e size v n xs) (hb : ∀ k, v.ownBlock = some k → k < W.heap.size → W'.heap[k]? = W.heap[k]?) : W'.ownsRow B e size v n xs := by
  obtain ⟨h1, h2⟩ := h
  refine ⟨h1, ?_⟩
  rcases h2 with h2 | ⟨g, cap, cur, e1, e2, e3, e4⟩
  · exact Or.inl h2
  · refine Or.inr ⟨g, cap, cur, e1, e2, ?_, e4⟩
    have hlt : g < W.heap.size := by
      rcases Nat.lt_or_ge g W.heap.size with h | h
      · exact h
      · rw [Array.getElem?_eq_none h] at e3; cases e3
    rw [hb g (by rw [e1]; rfl) hlt]; exact e3
theorem d_shape {B n size : Nat} {e : TypeId} {v : Value} {xs : List Value} {W : World} (h : W.ownsRow B e size v n xs) : ∃ a c, v = .slice a n c := by
  rcases h.2 with h | ⟨g, cp, _, e, _⟩
  · exact ⟨none, 0, by rw [h.1, h.2]⟩
  · exact ⟨_, _, e⟩
theorem Src.keep {sb : Nat} {w w' : World} (h : Src sb w) (hb : ∀ k, k ≤ sb → w'.heap[k]? = w.heap[k]?) : Src sb w' := by
  obtain ⟨a, len, cap, at_, mix, size, ⟨c0, c1, c2, c3, f0, f1, f2, f3⟩, h1, h2, h3, h4, h5, h6⟩ := h
  have ce : ∀ o, w'.cell? ⟨sb, o, none⟩ = w.cell? ⟨sb, o, none⟩ := fun o => World.cell?_of_block (hb sb (Nat.le_refl _))
  have fe : ∀ o, w'.frozen? ⟨sb, o, none⟩ = w.frozen? ⟨sb, o, none⟩ := fun o => World.frozen?_of_block (hb sb (Nat.le_refl _))
  refine ⟨a, len, cap, at_, mix, size, ⟨(ce 0).trans c0, (ce 1).trans c1, (ce 2).trans c2, (ce 3).trans c3, (fe 0).trans f0, (fe 1).trans f1, (fe 2).trans f2, (fe 3).trans f3⟩, h1, h2, h3, h4, h5, fun i hi => ?_⟩
  obtain ⟨cb, co, z, e, hne, hc, z0, z1⟩ := h6 i hi
  exact ⟨cb, co, z, e, hne, (World.cell?_of_block (a := ⟨cb, co + i, none⟩) (hb cb (by omega))).trans hc, z0, z1⟩

set_option maxHeartbeats 1000000 in
theorem dbetween_any (sb : Nat) (w : World) (h : Src sb w) :
    Calls Tryz.prog 87 #[.pointer (some ⟨sb, 0, none⟩), .int .i64 0, .int .i64 50] w fun e w' => (∃ v, e = .returned (.int .i64 v)) ∧ Drew sb w w' := by
  have H : Hid (Src sb w) := h
  clear h
  go_enter Tryz.func87, Tryz.ntmps87
  go_wp2_with fail
  refine (n_any sb _ _ H.out (by omega)).mono ?_
  rintro e w' ⟨⟨v, rfl, v0, v1, _⟩, hD⟩
  have HD : Hid (Drew sb w w') := hD
  clear hD
  have v2 := v1 (by omega)
  clear v1
  go_wp2_with fail
  go_ret
  exact ⟨⟨_, rfl⟩, HD.out⟩

/-- What the drawing of a list keeps: the list so far, the source, the old memory. -/
def DL (w : World) (sb : Nat) (v : Value) (zs : List Int) (W : World) : Prop := W.ownsRow w.heap.size 2 1 v zs.length (zs.map (Value.int .i64)) ∧ Drew sb w W ∧ sb < w.heap.size
theorem DL.draw {w : World} {sb : Nat} {v : Value} {zs : List Int} {W W' : World} (h : DL w sb v zs W) (hd : Drew sb W W') : DL w sb v zs W' :=
  ⟨d_far h.1 (fun k hk hl => hd.2.2.2.2.2 k hl (by have := (h.1.lt k hk).1; have := h.2.2; omega)), ⟨hd.1, h.2.1.2.trans hd.2⟩, h.2.2⟩
theorem DL.push {w : World} {sb : Nat} {v v' : Value} {zs : List Int} {x : Int} {W W' : World} {o : Obj} (h : DL w sb v zs W) (hg : (W.alloc o).grownBy W' v.ownBlock)
    (hown : W'.ownsRow w.heap.size 2 1 v' (zs.length + 1) (zs.map (Value.int .i64) ++ [.int .i64 x])) : DL w sb v' (zs ++ [x]) W' := by
  have hz := h.2.1.2.size
  have hrow : ∀ k, v.ownBlock = some k → w.heap.size ≤ k := fun k e => (h.1.lt k e).1
  have hk : ∀ k, k < w.heap.size → W'.heap[k]? = W.heap[k]? := fun k hk => by
    rw [hg.block k (by simp; omega) (fun e => by have := hrow k e.symm; omega)]
    exact blk_alloc_lt _ _ _ (by omega)
  refine ⟨by simpa using hown, ⟨h.2.1.1.keep (fun k hk2 => hk k (by have := h.2.2; omega)), ?_⟩, h.2.2⟩
  exact ⟨hg.os.trans h.2.1.2.1, hg.tape.trans h.2.1.2.2.1, hg.output.trans h.2.1.2.2.2.1, by have := hg.size; simp at this; omega, fun k hk1 hk2 => (hk k hk1).trans (h.2.1.2.2.2.2.2 k hk1 hk2)⟩
theorem dl_start {w : World} {sb : Nat} (h : Src sb w) : DL w sb (.slice (some ⟨w.heap.size, 0, none⟩) 0 0) [] (w.alloc (.cells #[] 2)) :=
  ⟨World.ownsRow_made w #[] 0 (Nat.le_refl _) (Nat.zero_le _) rfl, ⟨h.below ((Below.refl _ _).alloc (Nat.le_refl _) _), Chg.of_below ((Below.refl _ _).alloc (Nat.le_refl _) _)⟩, h.lt⟩

set_option maxRecDepth 100000 in
set_option maxHeartbeats 2000000 in
theorem dlist_any (sb N : Nat) (hN : N ≤ 1000) (w : World) (h : Src sb w) :
    Calls Tryz.prog 67 #[.pointer (some ⟨sb, 0, none⟩), .int .i64 N, .int .i64 0, .int .i64 50] w fun e w' => ∃ v, e = .returned v ∧ ∃ zs : List Int, zs.length = N ∧ DL w sb v zs w' := by
  have H : Hid (Src sb w) := h
  have hlt := h.lt
  clear h
  obtain ⟨i0, hi, hz0, hz1, hz2⟩ := info_parts yinfo_i64
  go_enter Tryz.func67, Tryz.ntmps67
  go_wp2_with fail
  go_loopw [1, 9] (fun nv ov wr => ∃ (m : Nat) (zs : List Int), nv = .int .i64 m ∧ m ≤ 1000 ∧ Hid (m + zs.length = N) ∧ Hid (DL w sb ov zs wr)) (fun nv _ _ => (intOf nv).toNat)
  case atStart => exact ⟨N, [], rfl, hN, by show _ = _; simp, dl_start H.out⟩
  case round =>
    obtain ⟨m, zs, rfl, m1, hm, hF⟩ := hrel
    obtain ⟨av, cv, rfl⟩ := d_shape hF.out.1
    by_cases hlt2 : 0 < m
    · have hltz : 0 < (m : Int) := by omega
      go_wp2_with fail
      refine (dbetween_any sb _ hF.out.2.1.1).mono ?_
      rintro e w1 ⟨⟨x, rfl⟩, hD⟩
      have HF1 : Hid (DL w sb _ zs w1) := hF.out.draw hD
      clear hD hF
      go_wp2_with (at_builtin; refine wpList_append_own _ rfl _ _ 23 rfl w.heap.size 2 i0 (.int .i64 0) 1 8 Tryz.underlying23 hi hz0 hz1 hz2 rfl (by decide) _ _ _ rfl (HF1.out.1.alloc _) ⟨w1.heap.size, 0, none⟩ 1 1 [.int .i64 x] rfl rfl ?c1 ?c2 ?c3 ?c4 ?c5 ?_)
      try (case c1 => (intro j u hj; match j, hj with
        | 0, hj => (simp at hj; subst hj; simp [Addr.add])))
      try (case c2 => first | rfl | (intro u hu; simp at hu; subst hu; rfl))
      try (case c3 => (have := hm.out; unfold maxLen; omega))
      try (case c4 => (have := hm.out; omega))
      try (case c5 => (have := HF1.out.2.1.2.size; first | omega | (simp; omega)))
      intro v' w2 hown hgrow hnil
      have HF2 : Hid (DL w sb v' (zs ++ [x]) w2) := HF1.out.push hgrow hown
      clear hown hgrow hnil HF1
      go_wp2_with fail
      go_roundw
      case rel => exact ⟨m - 1, zs ++ [x], by go_num, by omega, by show _ = _; have := hm.out; simp; omega, HF2⟩
      case measure => simp [intOf]; omega
    · obtain rfl : m = 0 := by omega
      go_wp2_with fail
      go_ret
      exact ⟨_, rfl, zs, by have := hm.out; omega, hF.out⟩

theorem DL.alloc {w : World} {sb : Nat} {v : Value} {zs : List Int} {W : World} (h : DL w sb v zs W) (o : Obj) : DL w sb v zs (W.alloc o) := by
  have hb : Below W.heap.size W (W.alloc o) := (Below.refl _ _).alloc (Nat.le_refl _) _
  exact ⟨h.1.alloc _, ⟨h.2.1.1.below hb, h.2.1.2.trans (Chg.of_below hb)⟩, h.2.2⟩
set_option maxRecDepth 100000 in
set_option maxHeartbeats 2000000 in
theorem drising_any (sb N : Nat) (of_ : Int) (hN : N ≤ 1000) (hof : of_ ≤ 1000) (w : World) (h : Src sb w) :
    Calls Tryz.prog 68 #[.pointer (some ⟨sb, 0, none⟩), .int .i64 N, .int .i64 of_] w fun e w' => ∃ v, e = .returned v ∧ ∃ zs : List Int, zs.length ≤ N ∧ DL w sb v zs w' := by
  have H : Hid (Src sb w) := h
  have hlt := h.lt
  clear h
  obtain ⟨i0, hi, hz0, hz1, hz2⟩ := info_parts yinfo_i64
  go_enter Tryz.func68, Tryz.ntmps68
  go_wp2_with fail
  go_loopw [7, 8] (fun ov iv wr => ∃ (i : Nat) (zs : List Int), iv = .int .i64 i ∧ i ≤ N ∧ Hid (zs.length ≤ i) ∧ Hid (DL w sb ov zs wr)) (fun _ iv _ => N - (intOf iv).toNat)
  case atStart => exact ⟨0, [], rfl, Nat.zero_le _, by show _ ≤ _; simp, dl_start H.out⟩
  case round =>
    obtain ⟨i, zs, rfl, hiN, hm, hF⟩ := hrel
    obtain ⟨av, cv, rfl⟩ := d_shape hF.out.1
    by_cases hlt2 : i < N
    · have hltz : (i : Int) < (N : Int) := by omega
      go_wp2_with fail
      refine (one_any sb of_ _ hF.out.2.1.1 (by omega)).mono ?_
      rintro e w1 ⟨⟨bb, rfl⟩, hD⟩
      have HF1 : Hid (DL w sb _ zs w1) := hF.out.draw hD
      clear hD hF
      cases bb with
      | false =>
        go_wp2_with fail
        go_roundw
        case rel => exact ⟨i + 1, zs, by go_num, by omega, Nat.le_succ_of_le hm.out, HF1⟩
        case measure => simp [intOf]; omega
      | true =>
        go_wp2_with (at_builtin; refine wpList_append_own _ rfl _ _ 23 rfl w.heap.size 2 i0 (.int .i64 0) 1 8 Tryz.underlying23 hi hz0 hz1 hz2 rfl (by decide) _ _ _ rfl (HF1.out.1.alloc _) ⟨w1.heap.size, 0, none⟩ 1 1 [.int .i64 (i : Nat)] rfl rfl ?c1 ?c2 ?c3 ?c4 ?c5 ?_)
        try (case c1 => (intro j u hj; match j, hj with
          | 0, hj => (simp at hj; subst hj; simp [Addr.add])))
        try (case c2 => first | rfl | (intro u hu; simp at hu; subst hu; rfl))
        try (case c3 => (have := hm.out; unfold maxLen; omega))
        try (case c4 => (have := hm.out; omega))
        try (case c5 => (have := HF1.out.2.1.2.size; first | omega | (simp; omega)))
        intro v' w2 hown hgrow hnil
        have HF2 : Hid (DL w sb v' (zs ++ [(i : Int)]) w2) := HF1.out.push hgrow hown
        clear hown hgrow hnil HF1
        go_wp2_with fail
        go_roundw
        case rel => exact ⟨i + 1, zs ++ [(i : Int)], by go_num, by omega, by show _ ≤ _; have := hm.out; simp; omega, HF2⟩
        case measure => simp [intOf]; omega
    · obtain rfl : i = N := by omega
      go_wp2_with fail
      go_ret
      exact ⟨_, rfl, zs, hm.out, hF.out⟩
end Go.Proofs.YtipmjobhegpdgaaGreatDoor
namespace Go.Proofs.YtipmjobhegpdgaaGreatDoor
open Go Go.RowKit Go.Deep

/-- The plan's memory is not the source's. -/
def PlOff (sb : Nat) (la fa wa : Option Addr) : Prop := (∀ b, la = some ⟨b, 0, none⟩ → b ≠ sb) ∧ (∀ b, fa = some ⟨b, 0, none⟩ → b ≠ sb) ∧ ∀ b, wa = some ⟨b, 0, none⟩ → b ≠ sb
theorem PlAt.chg {n : Pl.Plan} {la fa wa : Option Addr} {sb : Nat} {w w' : World} (h : PlAt n la fa wa w) (ho : PlOff sb la fa wa) (hc : Chg sb w w') : PlAt n la fa wa w' :=
  ⟨h.l.same (fun b e hb => hc.2.2.2.2 b hb (ho.1 b e)), h.f.same (fun b e hb => hc.2.2.2.2 b hb (ho.2.1 b e)), h.w.same (fun b e hb => hc.2.2.2.2 b hb (ho.2.2 b e))⟩
theorem row_chg {w w' : World} {sb g : Nat} {t : TypeId} {m : Nat} {F : Nat → Value} (h : w.rowIs g t m F) (hne : g ≠ sb) (hc : Chg sb w w') : w'.rowIs g t m F := h.of_block (hc.2.2.2.2 _ h.lt hne)
theorem shut_field (a : Option Addr) (k c : Nat) (h d : Int) (w : World) : (Instr.field 28 (.agg #[.slice a k c, .int .i64 h, .int .i64 d]) 0).run Tryz.prog w = .ok (.slice a k c) w := by kernel_rfl
/-- What lasts: the source, and the copy of the plan. -/
def ShS (sb : Nat) (W0 : World) (g : Nat) (l : List Value) (V : World) : Prop := Drew sb W0 V ∧ V.rowIs g 32 3 (rowN l)
theorem ShS.below {sb g : Nat} {W0 V V' : World} {l : List Value} (h : ShS sb W0 g l V) (hb : Below V.heap.size V V') : ShS sb W0 g l V' := ⟨⟨h.1.1.below hb, h.1.2.trans (Chg.of_below hb)⟩, nrow_below h.2 hb⟩
theorem ShS.draw {sb g : Nat} {W0 V V' : World} {l : List Value} (h : ShS sb W0 g l V) (hne : g ≠ sb) (hd : Drew sb V V') : ShS sb W0 g l V' := ⟨⟨hd.1, h.1.2.trans hd.2⟩, row_chg h.2 hne hd.2⟩
theorem Fl.lrows_len {n : Pl.Plan} {place : Int} : (Fl.lrows n place).length ≤ n.rn := by
  unfold Fl.lrows
  split
  · exact Fl.abTo_len
  · simp
set_option maxRecDepth 100000 in
set_option maxHeartbeats 2000000 in
theorem dshut_any (sb : Nat) (n : Pl.Plan) (la : Option Addr) (lk : Nat) (fa : Option Addr) (fk : Nat) (wa : Option Addr) (wk : Nat) (w : World) (hS : Src sb w) (h : PlAt n la fa wa w) (ho : PlOff sb la fa wa) (hs : PlSmall n) (hrn : n.rn ≤ 1000) (hhn : n.hn ≤ 1000) :
    Calls Tryz.prog 57 #[.pointer (some ⟨sb, 0, none⟩), plV n la lk fa fk wa wk] w fun e w' => ∃ v, e = .returned v ∧ (∃ zs : List Int, zs.length ≤ 1000 ∧ w'.ownsRow w.heap.size 2 1 v zs.length (zs.map (Value.int .i64))) ∧ Drew sb w w' := by
  obtain ⟨W0, hW⟩ : ∃ W, W = w.alloc (.cells #[.slice la n.rn lk, .slice fa n.sn fk, .slice wa n.hn wk] 32) := ⟨_, rfl⟩
  have hb : Below w.heap.size w W0 := by rw [hW]; exact nbel_alloc _ _
  have HB := Lib.hid hb
  have HR : Hid (W0.rowIs w.heap.size 32 3 (rowN (plL n la lk fa fk wa wk))) := by show World.rowIs _ _ _ _ _; rw [hW]; exact rowN_alloc w _ _
  have HSR := Lib.hid (hS.below hb)
  have hsb := hS.lt
  have H := Lib.hid (h.below hb)
  have HO := Lib.hid ho
  have HS := Lib.hid hs
  have HW := Lib.hid hW
  have HSZ : Hid (W0.heap.size = w.heap.size + 1) := by show W0.heap.size = _; rw [hW]; simp
  have hne : w.heap.size ≠ sb := by omega
  obtain ⟨i0, hi, hz0, hz1, hz2⟩ := info_parts yinfo_i64
  have HPI := Lib.hid (And.intro hi (And.intro hz0 (And.intro hz1 hz2)))
  clear hW h hs hS ho hb hi hz0 hz1 hz2
  go_enter Tryz.func57, Tryz.ntmps57
  go_wp2_with fail
  rw [← HW.out]
  refine (one_any sb 3 _ HSR.out (by omega)).mono ?_
  rintro e w1 ⟨⟨bb, rfl⟩, hD⟩
  have HD1 := Lib.hid hD
  have HR1 := Lib.hid (row_chg HR.out hne hD.2)
  clear hD HW HR HSR
  obtain ⟨⟨p0, p1, p2⟩, _⟩ := rowN3 HR1.out
  cases bb with
  | true =>
    have HS1 : Hid (ShS sb W0 w.heap.size (plL n la lk fa fk wa wk) w1) := ⟨HD1.out, HR1.out⟩
    clear HD1 HR1
    go_wp2_with fail
    refine wp_region_held_drew (S := ShS sb W0 w.heap.size (plL n la lk fa fk wa wk)) (by kernel_rfl) (HS1.out.below (Below.refl _ _).drew) (fun hHeld => ?_)
    obtain ⟨Z, hZ⟩ : ∃ Z, Z = w1.drew := ⟨_, rfl⟩
    rw [← hZ] at hHeld ⊢
    clear hZ
    refine take_do (i := 0) (v := (plV n la lk fa fk wa wk)) rfl (by kernel_rfl) (by kernel_rfl) (by kernel_rfl) (fun _ _ _ h => h) (by rfl) ?_ (by assumption) ?_
    · intro w hSw
      obtain ⟨⟨a0, a1, a2⟩, _⟩ := rowN3 hSw.2
      go_simp
    simp only [Act.put, List.setIfInBounds_toArray, List.set_cons_zero, List.set_cons_succ]
    refine take_do (i := 1) (v := (.pointer (some ⟨sb, 0, none⟩))) rfl (by kernel_rfl) (by kernel_rfl) (by kernel_rfl) (fun _ _ _ h => h) (by rfl) ?_ (by assumption) ?_
    · intro w hSw
      skip
      go_simp
    simp only [Act.put, List.setIfInBounds_toArray, List.set_cons_zero, List.set_cons_succ]
    refine take_do (i := 2) (v := (.pointer (some ⟨w.heap.size, 2, none⟩))) rfl (by kernel_rfl) (by kernel_rfl) (by kernel_rfl) (fun _ _ _ h => h) (by rfl) ?_ (by assumption) ?_
    · intro w hSw
      skip
      go_simp
    simp only [Act.put, List.setIfInBounds_toArray, List.set_cons_zero, List.set_cons_succ]
    refine take_do (i := 3) (v := (.slice wa n.hn wk)) rfl (by kernel_rfl) (by kernel_rfl) (by kernel_rfl) (fun _ _ _ h => h) (by rfl) ?_ (by assumption) ?_
    · intro w hSw
      obtain ⟨⟨a0, a1, a2⟩, _⟩ := rowN3 hSw.2
      go_simp
    simp only [Act.put, List.setIfInBounds_toArray, List.set_cons_zero, List.set_cons_succ]
    refine take_do (i := 4) (v := (.int .i64 (n.hn : Nat))) rfl (by kernel_rfl) (by kernel_rfl) (by kernel_rfl) (fun _ _ _ h => h) (by rfl) ?_ (by assumption) ?_
    · intro w hSw
      skip
      go_simp
    simp only [Act.put, List.setIfInBounds_toArray, List.set_cons_zero, List.set_cons_succ]
    refine take_call (i := 5) rfl (by kernel_rfl) (fun K2 hK => ?_)
    go_simp
    refine (n_any sb _ _ hHeld.1.1 (by omega)).mono ?_
    rintro e Z1 ⟨⟨pv, rfl, _, _, _⟩, hD⟩
    go_wp2_with fail
    refine hK.out _ _ (hHeld.draw hne hD) (fun hHeld2 => ?_)
    clear hK hHeld hD
    have hHeld := hHeld2
    clear hHeld2
    refine take_call (i := 6) rfl (by kernel_rfl) (fun K2 hK => ?_)
    go_simp
    refine (specLeast_any n la lk fa fk wa wk pv _ (H.out.chg HO.out hHeld.1.2) HS.out).mono ?_
    rintro e Z2 ⟨⟨rv, rfl, hO⟩, hb⟩
    have HOW : Hid (Z2.ownsRow w.heap.size 2 1 rv (Fl.lrows n pv).length (numsV (Fl.lrows n pv))) := own_low hO (by have := hHeld.1.2.size; have := HSZ.out; omega)
    obtain ⟨ra, rc, e, _⟩ := own_at hO
    subst e
    go_wp2_with fail
    refine hK.out _ _ (hHeld.below hb) (fun hHeld2 => ?_)
    clear hK hHeld hb hO
    have hHeld := hHeld2
    clear hHeld2
    refine take_do (i := 7) (v := (.slice ra (Fl.lrows n pv).length rc)) rfl (by kernel_rfl) (by kernel_rfl) (by kernel_rfl) (fun _ _ _ h => h) (by rfl) ?_ (by assumption) ?_
    · intro w hSw
      have hfld := shut_field ra (Fl.lrows n pv).length rc (Fl.lhomes n pv) (Fl.lcode n pv) w
      go_simp
    simp only [Act.put, List.setIfInBounds_toArray, List.set_cons_zero, List.set_cons_succ]
    refine take_do (i := 8) (v := (.slice ra (Fl.lrows n pv).length rc)) rfl (by kernel_rfl) (by kernel_rfl) (by kernel_rfl) (fun _ _ _ h => h) (by rfl) ?_ (by assumption) ?_
    · intro w hSw
      skip
      go_simp
    simp only [Act.put, List.setIfInBounds_toArray, List.set_cons_zero, List.set_cons_succ]
    refine wpAnyH_done (by kernel_rfl) ?_ _
    have HDD : Hid (Drew sb w Z2) := ⟨hHeld.1.1, (Chg.of_below HB.out).trans hHeld.1.2⟩
    clear hHeld
    go_wp2_with fail
    go_ret
    exact ⟨_, rfl, ⟨(Fl.lrows n pv).map (fun x : Nat => (x : Int)), by rw [List.length_map]; exact Nat.le_trans Fl.lrows_len hrn, by rw [List.length_map, List.map_map]; exact HOW.out⟩, HDD.out⟩
  | false =>
    have HDL : Hid (DL w1 sb (.slice (some ⟨w1.heap.size, 0, none⟩) 0 0) [] (w1.alloc (.cells #[] 2))) := dl_start HD1.out.1
    have HRA : Hid ((w1.alloc (.cells #[] 2)).rowIs w.heap.size 32 3 (rowN (plL n la lk fa fk wa wk))) := nrow_below HR1.out (nbel_alloc _ _)
    go_wp2_with fail
    clear p0 p1 p2
    go_loopw [5, 6] (fun ov iv wr => ∃ (i : Nat) (zs : List Int) (a : Option Addr) (c : Nat), i ≤ n.rn ∧ iv = .int .i64 i ∧ ov = .slice a zs.length c ∧ Hid (zs.length ≤ i) ∧ Hid (DL w1 sb (.slice a zs.length c) zs wr)) (fun _ iv _ => n.rn - (intOf iv).toNat)
    case atStart => exact ⟨0, [], _, _, Nat.zero_le _, rfl, rfl, by show _ ≤ _; simp, HDL⟩
    case round =>
      obtain ⟨i, zs, a, c, hi, rfl, rfl, hz, hF⟩ := hrel
      clear HDL HRA
      have hrw := row_chg HR1.out hne hF.out.2.1.2
      obtain ⟨⟨p0, p1, p2⟩, _⟩ := rowN3 hrw
      by_cases hlt : i < n.rn
      · have hltz : (i : Int) < (n.rn : Int) := by omega
        clear hrw
        go_wp2_with fail
        refine (one_any sb 3 _ hF.out.2.1.1 (by omega)).mono ?_
        rintro e w2 ⟨⟨bb, rfl⟩, hD⟩
        have HF1 : Hid (DL w1 sb (.slice a zs.length c) zs w2) := hF.out.draw hD
        clear hD hF p0 p1 p2
        cases bb with
        | false =>
          go_wp2_with fail
          go_roundw
          case rel => exact ⟨i + 1, zs, a, c, by omega, by go_num, rfl, Nat.le_succ_of_le hz.out, HF1⟩
          case measure => simp [intOf]; omega
        | true =>
          obtain ⟨⟨p0, p1, p2⟩, _⟩ := rowN3 (row_chg HR1.out hne HF1.out.2.1.2)
          obtain ⟨b, e, c0, c1, c2⟩ := ((H.out.chg HO.out HD1.out.2).chg HO.out HF1.out.2.1.2).l.at3 hlt
          subst e
          obtain ⟨hi0, hz0, hz1, hz2⟩ := HPI.out
          cases hv : n.R (i * 3 + 2) == 1 with
          | true =>
            go_wp2_with (at_builtin; refine wpList_append_own _ rfl _ _ 23 rfl w1.heap.size 2 i0 (.int .i64 0) 1 8 Tryz.underlying23 hi0 hz0 hz1 hz2 rfl (by decide) _ _ _ rfl (HF1.out.1.alloc _) ⟨w2.heap.size, 0, none⟩ 1 1 [.int .i64 (i : Nat)] rfl rfl ?c1 ?c2 ?c3 ?c4 ?c5 ?_)
            try (case c1 => (intro j u hj; match j, hj with
              | 0, hj => (simp at hj; subst hj; simp [Addr.add])))
            try (case c2 => first | rfl | (intro u hu; simp at hu; subst hu; rfl))
            try (case c3 => (have := hz.out; unfold maxLen; omega))
            try (case c4 => (have := hz.out; omega))
            try (case c5 => (have := HF1.out.2.1.2.size; first | omega | (simp; omega)))
            intro v' w5 hown hgrow hnil
            have HF5 : Hid (DL w1 sb v' (zs ++ [(i : Int)]) w5) := HF1.out.push hgrow hown
            obtain ⟨a5, k5, rfl⟩ := d_shape HF5.out.1
            clear hown hgrow hnil HF1
            go_wp2_with fail
            go_roundw
            case rel => exact ⟨i + 1, zs ++ [(i : Int)], a5, k5, by omega, by go_num, rfl, by show _ ≤ _; have := hz.out; simp; omega, HF5⟩
            case measure => simp [intOf]; omega
          | false =>
            go_wp2_with fail
            refine (one_any sb 30 _ HF1.out.2.1.1 (by omega)).mono ?_
            rintro e w3 ⟨⟨bb, rfl⟩, hD⟩
            have HF2 : Hid (DL w1 sb (.slice a zs.length c) zs w3) := HF1.out.draw hD
            clear hD HF1 p0 p1 p2 c0 c1 c2
            cases bb with
            | false =>
              go_wp2_with fail
              go_roundw
              case rel => exact ⟨i + 1, zs, a, c, by omega, by go_num, rfl, Nat.le_succ_of_le hz.out, HF2⟩
              case measure => simp [intOf]; omega
            | true =>
              go_wp2_with (at_builtin; refine wpList_append_own _ rfl _ _ 23 rfl w1.heap.size 2 i0 (.int .i64 0) 1 8 Tryz.underlying23 hi0 hz0 hz1 hz2 rfl (by decide) _ _ _ rfl (HF2.out.1.alloc _) ⟨w3.heap.size, 0, none⟩ 1 1 [.int .i64 (i : Nat)] rfl rfl ?c1 ?c2 ?c3 ?c4 ?c5 ?_)
              try (case c1 => (intro j u hj; match j, hj with
                | 0, hj => (simp at hj; subst hj; simp [Addr.add])))
              try (case c2 => first | rfl | (intro u hu; simp at hu; subst hu; rfl))
              try (case c3 => (have := hz.out; unfold maxLen; omega))
              try (case c4 => (have := hz.out; omega))
              try (case c5 => (have := HF2.out.2.1.2.size; first | omega | (simp; omega)))
              intro v' w5 hown hgrow hnil
              have HF5 : Hid (DL w1 sb v' (zs ++ [(i : Int)]) w5) := HF2.out.push hgrow hown
              obtain ⟨a5, k5, rfl⟩ := d_shape HF5.out.1
              clear hown hgrow hnil HF2
              go_wp2_with fail
              go_roundw
              case rel => exact ⟨i + 1, zs ++ [(i : Int)], a5, k5, by omega, by go_num, rfl, by show _ ≤ _; have := hz.out; simp; omega, HF5⟩
              case measure => simp [intOf]; omega
      · obtain rfl : i = n.rn := by omega
        have HDD : Hid (Drew sb w wr) := ⟨hF.out.2.1.1, ((Chg.of_below HB.out).trans HD1.out.2).trans hF.out.2.1.2⟩
        have HOW := Lib.hid (own_low hF.out.1 (show w.heap.size ≤ w1.heap.size by have := HD1.out.2.size; have := HSZ.out; omega))
        go_wp2_with fail
        go_ret
        exact ⟨_, rfl, ⟨zs, by have := hz.out; omega, HOW.out⟩, HDD.out⟩
end Go.Proofs.YtipmjobhegpdgaaGreatDoor
namespace Go.Proofs.YtipmjobhegpdgaaGreatDoor
open Go Go.RowKit

section
variable {P : Program} {ops : Array Oper} {Q : Exit → Act → World → Prop} {md : Region.Mode} {S : World → Prop} {st : Nat}
/-- Whatever order is picked; the condition holds behind every operation but the last one. -/
def wpL (P : Program) (md : Region.Mode) (ops : Array Oper) (Q : Exit → Act → World → Prop) (S : World → Prop) (st : Nat) : Nat → Array Bool → Act → World → Prop
  | 0, listed, a, w => Region.ready md ops listed = [] ∧ Q .normal a w
  | fuel + 1, listed, a, w => (Region.ready md ops listed = [] → Q .normal a w) ∧
      ∀ i ∈ Region.ready md ops listed, wpOp P ops Q i (fun a' w' => (i ≠ st → S w') ∧ wpL P md ops Q S st fuel (listed.setIfInBounds i true) a' w') a w
theorem any_of_L : ∀ (fuel : Nat) (listed : Array Bool) (a : Act) (w : World), wpL P md ops Q S st fuel listed a w → wpAny P md ops Q fuel listed a w
  | 0, _, _, _, h => h
  | fuel + 1, _, _, _, h => ⟨h.1, fun i hi => wpOp_mono (fun a' w' k => any_of_L fuel _ a' w' k.2) (h.2 i hi)⟩
/-- The last one waits for number i. -/
def lastWaits (md : Region.Mode) (ops : Array Oper) (st i : Nat) : Bool := match ops[st]? with
  | none => false
  | some o => o.after.any (fun e => Region.binds md e && e.on == i)
theorem lastWaits_spec {i : Nat} (h : lastWaits md ops st i = true) : ∃ o, ops[st]? = some o ∧ ∃ e ∈ o.after, Region.binds md e = true ∧ e.on = i := by
  unfold lastWaits at h
  cases ho : ops[st]? with
  | none => rw [ho] at h; cases h
  | some o =>
    rw [ho] at h
    simp only [Array.any_eq_true'] at h
    obtain ⟨e, he, h2⟩ := h
    simp only [Bool.and_eq_true, beq_iff_eq] at h2
    exact ⟨o, rfl, e, he, h2.1, h2.2⟩
theorem L_first {i : Nat} {oi : Oper} {v : Value} (hi : ops[i]? = some oi) (hsel : ∀ (j : Nat) (o : Oper) cs b, ops[j]? = some o → o.op ≠ .select cs b)
    (hQ : ∀ c a w, Q (.panic c) (a.put oi.dst v) w → Q (.panic c) a w) (hw : lastWaits md ops st i = true) (hne : i ≠ st) :
    ∀ (fuel : Nat) (listed : Array Bool) (a : Act) (w : World),
      (∀ j oj, ops[j]? = some oj → j ≠ i → listed.getD j true = false → (∀ e ∈ oj.after, Region.binds md e = true → e.on ≠ i) → oi.apart ops oj = true) →
      i ∈ Region.ready md ops listed → YieldsIf P ops S oi v a → S w →
      wpL P md ops Q S st fuel (listed.setIfInBounds i true) (a.put oi.dst v) w → wpL P md ops Q S st (fuel + 1) listed a w := by
  intro fuel
  induction fuel with
  | zero =>
    intro listed a w _ hr hy hS H
    refine ⟨fun h => (by rw [h] at hr; cases hr), fun j hj => ?_⟩
    by_cases hji : j = i
    · subst hji; exact hy.wpOp hi hS ⟨fun _ => hS, H⟩
    · have k := ready_mono hj hji
      rw [H.1] at k
      cases k
  | succ fuel ih =>
    intro listed a w hfree hr hy hS H
    refine ⟨fun h => (by rw [h] at hr; cases hr), fun j hj => ?_⟩
    by_cases hji : j = i
    · subst hji; exact hy.wpOp hi hS ⟨fun _ => hS, H⟩
    have h1 := H.2 j (ready_mono hj hji)
    obtain ⟨hjun, oj, hoj, hall⟩ := mem_ready.1 hj
    have h0 := (mem_ready.1 hr).1
    have late : ∀ e ∈ oj.after, Region.binds md e = true → e.on ≠ i := fun e he hb heq => by
      have k := hall e he hb
      rw [heq] at k
      rcases Nat.lt_or_ge i listed.size with h' | h'
      · simp [h'] at h0 k; rw [h0] at k; cases k
      · simp [Array.getElem?_eq_none h'] at k
    have hjs : j ≠ st := fun e => by
      obtain ⟨o, ho, ee, h2, h3, h4⟩ := lastWaits_spec hw
      rw [← e, hoj] at ho
      cases ho
      exact late ee h2 h3 h4
    have h2 := wpOp_putIf hoj (hfree j oj hoj hji hjun late) (fun cs b => hsel i oi cs b hi) (fun cs b => hsel j oj cs b hoj) hQ hy h1
    have hfree' : ∀ k ok, ops[k]? = some ok → k ≠ i → (listed.setIfInBounds j true).getD k true = false →
        (∀ e ∈ ok.after, Region.binds md e = true → e.on ≠ i) → oi.apart ops ok = true := fun k ok hk hki hun hno => by
      refine hfree k ok hk hki ?_ hno
      by_cases hjk : j = k
      · subst hjk; exact hjun
      · rw [getD_set_ne true hjk] at hun; exact hun
    refine wpOp_mono (fun a' w' h3 => ⟨fun _ => h3.2.1 hjs, ih (listed.setIfInBounds j true) a' w' hfree' (ready_mono hr (Ne.symm hji)) h3.1 (h3.2.1 hjs) ?_⟩) h2
    rw [Array.setIfInBounds_comm _ _ hji]
    exact h3.2.2
theorem takeL_do {i : Nat} {oi : Oper} {rest : List Oper} {v : Value} {fuel : Nat} {listed : Array Bool} {a : Act} {w : World} (hi : ops.toList.drop i = oi :: rest)
    (hs : Region.noSelect ops = true) (hf : Region.free md ops listed i = true) (hr : (Region.ready md ops listed).contains i = true) (hl : (lastWaits md ops st i && (i != st)) = true)
    (hQ : ∀ c a w, Q (.panic c) (a.put oi.dst v) w → Q (.panic c) a w) (hw : Region.wanted oi (yielded ops a.tmps) = true) (hy : ∀ w, S w → (execOp a.eval oi).run P w = .ok (.value v) w) (hS : S w)
    (h : wpL P md ops Q S st fuel (listed.setIfInBounds i true) (a.put oi.dst v) w) : wpL P md ops Q S st (fuel + 1) listed a w := by
  simp only [Bool.and_eq_true, bne_iff_ne, ne_eq] at hl
  exact L_first (at_drop hi) (Region.noSelect_spec hs) hQ hl.1 hl.2 fuel listed a w (Region.free_spec (at_drop hi) hf) (by simpa using hr) (Or.inl ⟨hw, hy⟩) hS h
/-- Each of these may come up. -/
def AllL (P : Program) (md : Region.Mode) (ops : Array Oper) (Q : Exit → Act → World → Prop) (S : World → Prop) (st : Nat) (fuel : Nat) (listed : Array Bool) (a : Act) (w : World) (rs : List Nat) : Prop :=
  ∀ i ∈ rs, wpOp P ops Q i (fun a' w' => (i ≠ st → S w') ∧ wpL P md ops Q S st fuel (listed.setIfInBounds i true) a' w') a w
theorem AllL.nil {fuel : Nat} {listed : Array Bool} {a : Act} {w : World} : AllL P md ops Q S st fuel listed a w [] := fun _ h => by cases h
theorem AllL.cons {fuel : Nat} {listed : Array Bool} {a : Act} {w : World} {i : Nat} {oi : Oper} {rest : List Oper} {rs : List Nat} (hi : ops.toList.drop i = oi :: rest)
    (h : ∀ K' : Act → World → Prop, Shut (∀ a w, S w → (S w → wpL P md ops Q S st fuel (listed.setIfInBounds i true) a w) → K' a w) → if Region.wanted oi (yielded ops a.tmps) = true then Oper.wp P oi a w K' Q else K' (a.put oi.dst undef) w)
    (hs : AllL P md ops Q S st fuel listed a w rs) : AllL P md ops Q S st fuel listed a w (i :: rs) := fun j hj => by
  rcases List.mem_cons.1 hj with rfl | hj
  · exact wpOp_step (at_drop hi) (fun K' hK => h K' (fun a w hS hW => hK a w ⟨fun _ => hS, hW hS⟩))
  · exact hs j hj
theorem L_ready {rs : List Nat} {fuel : Nat} {listed : Array Bool} {a : Act} {w : World} (hr : Region.ready md ops listed = rs) (hne : rs ≠ [])
    (h : AllL P md ops Q S st fuel listed a w rs) : wpL P md ops Q S st (fuel + 1) listed a w := ⟨fun h0 => absurd (hr ▸ h0) hne, hr ▸ h⟩
theorem takeL_call {i : Nat} {oi : Oper} {rest : List Oper} {fuel : Nat} {listed : Array Bool} {a : Act} {w : World} (hi : ops.toList.drop i = oi :: rest) (hr : Region.ready md ops listed = [i])
    (h : ∀ K' : Act → World → Prop, Shut (∀ a w, S w → (S w → wpL P md ops Q S st fuel (listed.setIfInBounds i true) a w) → K' a w) → if Region.wanted oi (yielded ops a.tmps) = true then Oper.wp P oi a w K' Q else K' (a.put oi.dst undef) w) :
    wpL P md ops Q S st (fuel + 1) listed a w := L_ready hr (by simp) (AllL.cons hi h AllL.nil)
/-- The last one. -/
theorem takeL_last {oi : Oper} {rest : List Oper} {fuel : Nat} {listed : Array Bool} {a : Act} {w : World} (hi : ops.toList.drop st = oi :: rest) (hr : Region.ready md ops listed = [st]) (hd : Region.ready md ops (listed.setIfInBounds st true) = [])
    (h : ∀ K' : Act → World → Prop, Shut (∀ a w, Q .normal a w → K' a w) → if Region.wanted oi (yielded ops a.tmps) = true then Oper.wp P oi a w K' Q else K' (a.put oi.dst undef) w) :
    wpL P md ops Q S st (fuel + 1) listed a w := by
  refine ⟨fun h0 => (by rw [hr] at h0; cases h0), fun j hj => ?_⟩
  rw [hr] at hj
  obtain rfl : j = st := by simpa using hj
  refine wpOp_step (at_drop hi) (fun K' hK => h K' (fun a w hW => hK a w ⟨fun h => absurd rfl h, ?_⟩))
  cases fuel with
  | zero => exact ⟨hd, hW⟩
  | succ fuel => exact ⟨fun _ => hW, by rw [hd]; simp⟩
theorem region_L (S : World → Prop) (st : Nat) {id : Nat} {a : Act} {w : World} (hm : P.follows .mixedOrders = true) (hS : S w.drew)
    (h : S w.drew → wpL P .any ops Q S st ops.size (Array.replicate ops.size false) a w.drew) : (Code.region id ops true).wp P Q a w :=
  wp_region_any hm (any_of_L _ _ _ _ (h hS))
end
end Go.Proofs.YtipmjobhegpdgaaGreatDoor
namespace Go.Proofs.YtipmjobhegpdgaaGreatDoor
open Go Go.RowKit Go.Deep

theorem rinfo : (Tryz.prog.info? 61).map (fun i => (i.zero, i.size, i.bytes)) = some (some (.agg #[.int .i64 0, .int .i64 0, .int .i64 0]), 3, 24) := by kernel_rfl
/-- A list of numbers of the call's own. -/
def OwZ (T : TypeId) (s B : Nat) (v : Value) (n : Nat) (W : World) : Prop := ∃ zs : List Int, W.ownsRow B T s v n (zs.map (Value.int .i64))
theorem OwZ.nil (T : TypeId) (s B : Nat) (W : World) : OwZ T s B (.slice none 0 0) 0 W := ⟨[], World.ownsRow_nil _ _ _ _⟩
theorem OwZ.lt {T : TypeId} {s B : Nat} {v : Value} {n : Nat} {W : World} (h : OwZ T s B v n W) {k : Nat} (hk : v.ownBlock = some k) : B ≤ k ∧ k < W.heap.size := by
  obtain ⟨zs, h⟩ := h
  exact h.lt k hk
theorem OwZ.far {T : TypeId} {s B : Nat} {v : Value} {n : Nat} {W W' : World} (h : OwZ T s B v n W) (hb : ∀ k, v.ownBlock = some k → k < W.heap.size → W'.heap[k]? = W.heap[k]?) : OwZ T s B v n W' := by
  obtain ⟨zs, h⟩ := h
  exact ⟨zs, d_far h hb⟩
theorem OwZ.low {T : TypeId} {s B B' : Nat} {v : Value} {n : Nat} {W : World} (h : OwZ T s B v n W) (hb : B' ≤ B) : OwZ T s B' v n W := by
  obtain ⟨zs, h1, h⟩ := h
  rcases h with h | ⟨g, cap, cur, e1, e2, e3⟩
  · exact ⟨zs, h1, Or.inl h⟩
  · exact ⟨zs, h1, Or.inr ⟨g, cap, cur, e1, Nat.le_trans hb e2, e3⟩⟩
theorem OwZ.shape {T : TypeId} {s B : Nat} {v : Value} {n : Nat} {W : World} (h : OwZ T s B v n W) : ∃ a c, v = .slice a n c ∧ (a = none → n = 0 ∧ c = 0) := by
  obtain ⟨zs, _, h⟩ := h
  rcases h with h | ⟨g, cp, _, e, _⟩
  · exact ⟨none, 0, by rw [h.1, h.2], fun _ => ⟨h.2, rfl⟩⟩
  · exact ⟨_, _, e, fun h => by cases h⟩
/-- Blocks of unlike types are unlike. -/
theorem OwZ.ne_row {T T' : TypeId} {s B : Nat} {v : Value} {n : Nat} {W : World} (h : OwZ T s B v n W) {g m : Nat} {F : Nat → Value} (hr : W.rowIs g T' m F) (hT : T ≠ T') {k : Nat} (hk : v.ownBlock = some k) : k ≠ g := by
  obtain ⟨zs, _, h⟩ := h
  rcases h with h | ⟨g', cap, cur, e1, e2, e3, _⟩
  · rw [h.1] at hk; cases hk
  · rw [e1] at hk
    simp [Value.ownBlock] at hk
    subst hk
    intro e
    subst e
    obtain ⟨c2, h2, _⟩ := hr
    rw [e3] at h2
    simp at h2
    exact hT h2.2
theorem OwZ.ne_own {T T' : TypeId} {s s' B B' : Nat} {v v' : Value} {n n' : Nat} {W : World} (h : OwZ T s B v n W) (h' : OwZ T' s' B' v' n' W) (hT : T ≠ T') {k k' : Nat} (hk : v.ownBlock = some k) (hk' : v'.ownBlock = some k') : k ≠ k' := by
  obtain ⟨zs, _, h⟩ := h
  obtain ⟨zs', _, h'⟩ := h'
  rcases h with h | ⟨g, cap, cur, e1, e2, e3, _⟩
  · rw [h.1] at hk; cases hk
  rcases h' with h' | ⟨g', cap', cur', e1', e2', e3', _⟩
  · rw [h'.1] at hk'; cases hk'
  rw [e1] at hk
  rw [e1'] at hk'
  simp [Value.ownBlock] at hk hk'
  subst hk hk'
  intro e
  subst e
  rw [e3] at e3'
  simp at e3'
  exact hT e3'.2
/-- As cells. -/
theorem OwZ.at_ {T : TypeId} {s B : Nat} {v : Value} {n : Nat} {W : World} (h : OwZ T s B v n W) : ∃ a c f, v = .slice a n c ∧ IsAt a (n * s) f W ∧ (∀ b, a = some ⟨b, 0, none⟩ → B ≤ b) ∧ (a = none → n = 0) := by
  obtain ⟨zs, hl, h⟩ := h
  rcases h with h | ⟨g, cap, cur, e1, e2, e3, e4, e5, e6, e7⟩
  · exact ⟨none, 0, fun _ => 0, by rw [h.1, h.2], Or.inl (by rw [h.2]; simp), fun b e => (by cases e), fun _ => h.2⟩
  · have hown : W.ownsRow B T s v n (zs.map (Value.int .i64)) := ⟨hl, Or.inr ⟨g, cap, cur, e1, e2, e3, e4, e5, e6, e7⟩⟩
    refine ⟨_, cap, fun j => zs.getD j 0, e1, Or.inr ⟨g, rfl, fun j hj => ?_⟩, fun b e => (by cases e; exact e2), fun h => (by cases h)⟩
    have hz : zs.length = n * s := by simpa using hl
    have k := hown.cells (g := g) (by rw [e1]; rfl) j (.int .i64 (zs.getD j 0)) (by simp [hz, hj])
    rw [Addr.add_lit, Nat.zero_add] at k
    exact k
/-- A list of one number, or of three. -/
theorem OwZ.made (T : TypeId) (s : Nat) (W : World) (zs : List Int) (hz : zs.length = s) {B : Nat} (hb : B ≤ W.heap.size) : OwZ T s B (.slice (some ⟨W.heap.size, 0, none⟩) 1 1) 1 (W.alloc (.cells (zs.map (Value.int .i64)).toArray T)) :=
  ⟨zs, by simp [hz], Or.inr ⟨_, 1, (zs.map (Value.int .i64)).toArray, rfl, hb, blk_alloc_new _ _, Nat.le_refl _, by decide, by simp [hz], by subst hz; rw [List.take_of_length_le (by simp)]⟩⟩
/-- What lasts while a plan is drawn. -/
structure PM (w : World) (sb : Nat) (rv sv hv : Value) (rn sn hn : Nat) (W : World) : Prop where
  src : Drew sb w W
  sbl : sb < w.heap.size
  res : W.rowIs w.heap.size 32 3 (rowN [.slice none 0 0, .slice none 0 0, .slice none 0 0])
  ro : OwZ 61 3 w.heap.size rv rn W
  ho : OwZ 2 1 w.heap.size hv hn W
  sb2 : ∃ bs, w.heap.size ≤ bs ∧ bs ≤ W.heap.size ∧ OwZ 2 1 bs sv sn W ∧ ∀ k, hv.ownBlock = some k → k < bs
theorem PM.so {w : World} {sb : Nat} {rv sv hv : Value} {rn sn hn : Nat} {W : World} (h : PM w sb rv sv hv rn sn hn W) : OwZ 2 1 w.heap.size sv sn W := by
  obtain ⟨bs, h1, _, h2, _⟩ := h.sb2
  exact h2.low h1
theorem PM.dis {w : World} {sb : Nat} {rv sv hv : Value} {rn sn hn : Nat} {W : World} (h : PM w sb rv sv hv rn sn hn W) : ∀ k, sv.ownBlock = some k → hv.ownBlock ≠ some k := by
  intro k e e2
  obtain ⟨bs, h1, _, h2, h3⟩ := h.sb2
  have := (h2.lt e).1
  have := h3 k e2
  omega
theorem PM.keep {w : World} {sb : Nat} {rv sv hv : Value} {rn sn hn : Nat} {W W' : World} (h : PM w sb rv sv hv rn sn hn W) (hs : Drew sb w W') (hz : W.heap.size ≤ W'.heap.size) (hb : ∀ k, w.heap.size ≤ k → k < W.heap.size → W'.heap[k]? = W.heap[k]?) : PM w sb rv sv hv rn sn hn W' :=
  ⟨hs, h.sbl, h.res.of_block (hb _ (Nat.le_refl _) h.res.lt), h.ro.far (fun k hk hl => hb k (h.ro.lt hk).1 hl), h.ho.far (fun k hk hl => hb k (h.ho.lt hk).1 hl), by
    obtain ⟨bs, h1, h0, h2, h3⟩ := h.sb2
    exact ⟨bs, h1, Nat.le_trans h0 hz, h2.far (fun k hk hl => hb k (h.so.lt hk).1 hl), h3⟩⟩
theorem PM.draw {w : World} {sb : Nat} {rv sv hv : Value} {rn sn hn : Nat} {W W' : World} (h : PM w sb rv sv hv rn sn hn W) (hd : Drew sb W W') : PM w sb rv sv hv rn sn hn W' :=
  h.keep ⟨hd.1, h.src.2.trans hd.2⟩ hd.2.size (fun k h1 h2 => hd.2.2.2.2.2 k h2 (by have := h.sbl; omega))
theorem PM.below {w : World} {sb : Nat} {rv sv hv : Value} {rn sn hn : Nat} {W W' : World} (h : PM w sb rv sv hv rn sn hn W) (hb : Below W.heap.size W W') : PM w sb rv sv hv rn sn hn W' :=
  h.keep ⟨h.src.1.below hb, h.src.2.trans (Chg.of_below hb)⟩ hb.size (fun k _ h2 => hb.block k h2)
/-- A store into a block of the call's own that is none of these. -/
theorem PM.set {w : World} {sb : Nat} {rv sv hv : Value} {rn sn hn : Nat} {W : World} (h : PM w sb rv sv hv rn sn hn W) {g i m : Nat} {F : Nat → Value} (hr : W.rowIs g 32 m F) (hg : w.heap.size < g) (v : Value) : PM w sb rv sv hv rn sn hn (W.setCell ⟨g, i, none⟩ v) := by
  have hk : ∀ k, k ≠ g → (W.setCell ⟨g, i, none⟩ v).heap[k]? = W.heap[k]? := fun k hk => Below.heap_setCell _ _ _ _ hk
  have hsz : (W.setCell ⟨g, i, none⟩ v).heap.size = W.heap.size := by simp
  refine ⟨⟨h.src.1.keep (fun k hk2 => hk k (by have := h.sbl; omega)), h.src.2.1, h.src.2.2.1, h.src.2.2.2.1, by rw [hsz]; exact h.src.2.2.2.2.1, fun k h1 h2 => (hk k (by omega)).trans (h.src.2.2.2.2.2 k h1 h2)⟩, h.sbl, h.res.of_block (hk _ (by omega)), ?_, ?_, ?_⟩
  · exact h.ro.far (fun k e _ => hk k (h.ro.ne_row hr (by decide) e))
  · exact h.ho.far (fun k e _ => hk k (h.ho.ne_row hr (by decide) e))
  · obtain ⟨bs, h1, h0, h2, h3⟩ := h.sb2
    exact ⟨bs, h1, by rw [hsz]; exact h0, h2.far (fun k e _ => hk k (h2.ne_row hr (by decide) e)), h3⟩
/-- The memory that an append changes. -/
theorem grown_src {w : World} {sb : Nat} {W W' : World} {v : Value} (hs : Drew sb w W) (hg : W.grownBy W' v.ownBlock) (hv : ∀ k, v.ownBlock = some k → w.heap.size ≤ k) (hl : sb < w.heap.size) : Drew sb w W' := by
  have hk : ∀ k, k < w.heap.size → W'.heap[k]? = W.heap[k]? := fun k hk => hg.block k (by have := hs.2.size; omega) (fun e => by have := hv k e.symm; omega)
  exact ⟨hs.1.keep (fun k hk2 => hk k (by omega)), hg.os.trans hs.2.1, hg.tape.trans hs.2.2.1, hg.output.trans hs.2.2.2.1, Nat.le_trans hs.2.size hg.size, fun k h1 h2 => (hk k h1).trans (hs.2.2.2.2.2 k h1 h2)⟩
theorem PM.rows {w : World} {sb : Nat} {rv sv hv rv' : Value} {rn sn hn : Nat} {W W' : World} (h : PM w sb rv sv hv rn sn hn W) (hg : W.grownBy W' rv.ownBlock) (ho : OwZ 61 3 w.heap.size rv' (rn + 1) W') : PM w sb rv' sv hv (rn + 1) sn hn W' := by
  refine ⟨grown_src h.src hg (fun k e => (h.ro.lt e).1) h.sbl, h.sbl, h.res.of_block (hg.block _ h.res.lt (fun e => h.ro.ne_row h.res (by decide) e.symm rfl)), ho, ?_, ?_⟩
  · exact h.ho.far (fun k e hl => hg.block k hl (fun e2 => h.ro.ne_own h.ho (by decide) e2.symm e rfl))
  · obtain ⟨bs, h1, h0, h2, h3⟩ := h.sb2
    exact ⟨bs, h1, Nat.le_trans h0 hg.size, h2.far (fun k e hl => hg.block k hl (fun e2 => h.ro.ne_own h2 (by decide) e2.symm e rfl)), h3⟩
theorem PM.sources {w : World} {sb : Nat} {rv sv hv sv' : Value} {rn sn hn bs : Nat} {W W' : World} (h : PM w sb rv sv hv rn sn hn W) (hg : W.grownBy W' sv.ownBlock) (h1 : w.heap.size ≤ bs) (h0 : bs ≤ W.heap.size) (ho : OwZ 2 1 bs sv' (sn + 1) W') (h3 : ∀ k, hv.ownBlock = some k → k < bs) : PM w sb rv sv' hv rn (sn + 1) hn W' := by
  refine ⟨grown_src h.src hg (fun k e => (h.so.lt e).1) h.sbl, h.sbl, h.res.of_block (hg.block _ h.res.lt (fun e => h.so.ne_row h.res (by decide) e.symm rfl)), ?_, ?_, bs, h1, Nat.le_trans h0 hg.size, ho, h3⟩
  · exact h.ro.far (fun k e hl => hg.block k hl (fun e2 => h.ro.ne_own h.so (by decide) e e2.symm rfl))
  · exact h.ho.far (fun k e hl => hg.block k hl (fun e2 => h.dis k e2.symm e))
/-- Other sources, made anew. -/
theorem PM.anew {w : World} {sb : Nat} {rv sv hv sv' : Value} {rn sn sn' hn bs : Nat} {W : World} (h : PM w sb rv sv hv rn sn hn W) (h1 : w.heap.size ≤ bs) (h0 : bs ≤ W.heap.size) (ho : OwZ 2 1 bs sv' sn' W) (h3 : ∀ k, hv.ownBlock = some k → k < bs) : PM w sb rv sv' hv rn sn' hn W := ⟨h.src, h.sbl, h.res, h.ro, h.ho, bs, h1, h0, ho, h3⟩
/-- The plan's own block stays. -/
theorem row_grown {W W' : World} {T : TypeId} {s B : Nat} {v : Value} {n : Nat} {g m : Nat} {F : Nat → Value} (hr : W.rowIs g 32 m F) (ho : OwZ T s B v n W) (hT : T ≠ 32) (hg : W.grownBy W' v.ownBlock) : W'.rowIs g 32 m F :=
  hr.of_block (hg.block _ hr.lt (fun e => ho.ne_row hr hT e.symm rfl))
/-- A plan that is being drawn: its own block beside. -/
def PDx (w : World) (sb rn sn hn : Nat) (W : World) : Prop := ∃ rv sv hv, PM w sb rv sv hv rn sn hn W ∧ W.rowIs (w.heap.size + 1) 32 3 (rowN [rv, sv, hv])
theorem PDx.draw {w : World} {sb rn sn hn : Nat} {W W' : World} (h : PDx w sb rn sn hn W) (hd : Drew sb W W') : PDx w sb rn sn hn W' := by
  obtain ⟨rv, sv, hv, h1, h2⟩ := h
  exact ⟨rv, sv, hv, h1.draw hd, row_chg h2 (by have := h1.sbl; omega) hd.2⟩
theorem PDx.src {w : World} {sb rn sn hn : Nat} {W : World} (h : PDx w sb rn sn hn W) : Src sb W := by
  obtain ⟨rv, sv, hv, h1, h2⟩ := h
  exact h1.src.1
theorem OwZ.set0 {s B : Nat} {a : Option Addr} {n c : Nat} {W : World} (h : OwZ 2 s B (.slice a n c) n W) (hn : 1 ≤ n) (hs : s = 1) {b : Nat} (hb : a = some ⟨b, 0, none⟩) (x : Int) : OwZ 2 s B (.slice a n c) n (W.setCell ⟨b, 0, none⟩ (.int .i64 x)) := by
  subst hs
  obtain ⟨zs, hl, h⟩ := h
  rcases h with h | ⟨g, cap, cur, e1, e2, e3, e4, e5, e6, e7⟩
  · exact absurd h.2 (by omega)
  · injection e1 with e1a e1b e1c
    rw [hb] at e1a
    cases e1a
    cases e1c
    have hz : zs.length = n := by simpa using hl
    refine ⟨zs.set 0 x, by simp [hz], Or.inr ⟨b, c, cur.setIfInBounds 0 (.int .i64 x), by rw [hb], e2, ?_, e4, e5, by simpa using e6, ?_⟩⟩
    · simp only [World.setCell]
      simp [e3, Array.getElem?_modify]
    · rw [Array.toList_setIfInBounds, List.take_set, e7]
      simp
theorem OwZ.head {s B : Nat} {a : Option Addr} {n c : Nat} {T : TypeId} {W : World} (h : OwZ T s B (.slice a n c) n W) (hn : 1 ≤ n * s) {b : Nat} (hb : a = some ⟨b, 0, none⟩) : (∃ u, W.cell? ⟨b, 0, none⟩ = some u) ∧ W.frozen? ⟨b, 0, none⟩ = false := by
  obtain ⟨zs, hl, h⟩ := h
  rcases h with h | ⟨g, cap, cur, e1, e2, e3, e4, e5, e6, e7⟩
  · rw [h.2] at hn; simp at hn
  · injection e1 with e1a e1b e1c
    rw [hb] at e1a
    cases e1a
    have hcs : 0 < cur.size := by rw [e6]; exact Nat.lt_of_lt_of_le hn (Nat.mul_le_mul_right _ e4)
    exact ⟨⟨cur[0], by simp [World.cell?, e3, hcs]⟩, by simp [World.frozen?, e3]⟩
/-- The first home is written anew. -/
theorem PM.home0 {w : World} {sb : Nat} {rv sv : Value} {ha : Option Addr} {hc : Nat} {rn sn hn : Nat} {W : World} (h : PM w sb rv sv (.slice ha hn hc) rn sn hn W) (hn1 : 1 ≤ hn) {b : Nat} (hb : ha = some ⟨b, 0, none⟩) (x : Int) : PM w sb rv sv (.slice ha hn hc) rn sn hn (W.setCell ⟨b, 0, none⟩ (.int .i64 x)) := by
  have hob : (Value.slice ha hn hc).ownBlock = some b := by rw [hb]; rfl
  have hbl := h.ho.lt hob
  have hk : ∀ k, k ≠ b → (W.setCell ⟨b, 0, none⟩ (.int .i64 x)).heap[k]? = W.heap[k]? := fun k hk => Below.heap_setCell _ _ _ _ hk
  have hsz : (W.setCell ⟨b, 0, none⟩ (.int .i64 x)).heap.size = W.heap.size := by simp
  refine ⟨⟨h.src.1.keep (fun k hk2 => hk k (by have := h.sbl; omega)), h.src.2.1, h.src.2.2.1, h.src.2.2.2.1, by rw [hsz]; exact h.src.2.2.2.2.1, fun k h1 h2 => (hk k (by omega)).trans (h.src.2.2.2.2.2 k h1 h2)⟩, h.sbl, h.res.of_block (hk _ (fun e => h.ho.ne_row h.res (by decide) hob e.symm)), ?_, h.ho.set0 hn1 rfl hb x, ?_⟩
  · exact h.ro.far (fun k e _ => hk k (fun e2 => h.ro.ne_own h.ho (by decide) e hob e2))
  · obtain ⟨bs, h1, h0, h2, h3⟩ := h.sb2
    exact ⟨bs, h1, by rw [hsz]; exact h0, h2.far (fun k e _ => hk k (fun e2 => h.dis k e (by rw [hob, e2]))), h3⟩
/-- What is handed back. -/
theorem PM.told {w : World} {sb : Nat} {rv sv hv : Value} {rn sn hn : Nat} {W : World} (h : PM w sb rv sv hv rn sn hn W) (hrn : rn ≤ 1000) (hsn : sn ≤ 1000) (hhn : hn ≤ 1000) {V : World} (hV : V = ((W.setCell ⟨w.heap.size, 0, none⟩ rv).setCell ⟨w.heap.size, 1, none⟩ sv).setCell ⟨w.heap.size, 2, none⟩ hv) :
    (∃ (n : Pl.Plan) (la : Option Addr) (lk : Nat) (fa : Option Addr) (fk : Nat) (wa : Option Addr) (wk : Nat), Ending.returned (.agg #[rv, sv, hv]) = .returned (plV n la lk fa fk wa wk) ∧ PlAt n la fa wa V ∧ PlSmall n ∧ PlOff sb la fa wa ∧ (fa = none → n.sn = 0) ∧ n.rn ≤ 1000 ∧ n.hn ≤ 1000) ∧ Drew sb w V := by
  have hk : ∀ k, k ≠ w.heap.size → V.heap[k]? = W.heap[k]? := fun k hk => by
    rw [hV, Below.heap_setCell _ _ _ _ hk, Below.heap_setCell _ _ _ _ hk, Below.heap_setCell _ _ _ _ hk]
  have hsz : V.heap.size = W.heap.size := by rw [hV]; simp
  have ro := h.ro.far (W' := V) (fun k e _ => hk k (h.ro.ne_row h.res (by decide) e))
  have so := h.so.far (W' := V) (fun k e _ => hk k (h.so.ne_row h.res (by decide) e))
  have ho := h.ho.far (W' := V) (fun k e _ => hk k (h.ho.ne_row h.res (by decide) e))
  obtain ⟨la, lk, R, e1, a1, b1, _⟩ := ro.at_
  obtain ⟨fa, fk, S, e2, a2, b2, n2⟩ := so.at_
  obtain ⟨wa, wk, H, e3, a3, b3, _⟩ := ho.at_
  have hl := h.sbl
  refine ⟨⟨⟨rn, R, sn, S, hn, H⟩, la, lk, fa, fk, wa, wk, by rw [e1, e2, e3], ⟨a1, by simpa using a2, by simpa using a3⟩, ⟨by show rn ≤ _; omega, by show sn ≤ _; omega, by show hn ≤ _; omega⟩, ⟨fun b e => by have := b1 b e; omega, fun b e => by have := b2 b e; omega, fun b e => by have := b3 b e; omega⟩, n2, hrn, hhn⟩, ?_⟩
  exact ⟨h.src.1.keep (fun k hk2 => hk k (by omega)), by rw [hV]; exact h.src.2.1, by rw [hV]; exact h.src.2.2.1, by rw [hV]; exact h.src.2.2.2.1, by rw [hsz]; exact h.src.2.2.2.2.1, fun k h1 h2 => (hk k (by omega)).trans (h.src.2.2.2.2.2 k h1 h2)⟩
end Go.Proofs.YtipmjobhegpdgaaGreatDoor
namespace Go.Proofs.YtipmjobhegpdgaaGreatDoor
open Go Go.RowKit Go.Deep

theorem dywr {x : Int} (h1 : -9223372036854775808 ≤ x) (h2 : x ≤ 9223372036854775807) : IntKind.i64.wrap x = x := by simp [IntKind.wrap, IntKind.bits, IntKind.signed]; omega
theorem src_size {sb : Nat} {w : World} (h : Src sb w) : ∃ z : Int, w.cell? ⟨sb, 3, none⟩ = some (.int .i64 z) ∧ 0 ≤ z ∧ z ≤ 12 := by
  obtain ⟨a, len, cap, at_, mix, size, ⟨c0, c1, c2, c3, _⟩, h1, h2, h3, h4, h5, h6⟩ := h
  exact ⟨size, c3, h4, h5⟩
theorem dyap {P : Program} {ops : Array Oper} {o : Oper} {a : Act} {w : World} {K : Act → World → Prop} {Q : Exit → Act → World → Prop} {E : Prop}
    (hg : o.guard = none) (s x : Operand) (t : TypeId) (hop : o.op = Op.call { callee := Callee.builtin Builtin.append, args := #[s, x], argTypes := #[t, t] }) (B : Nat)
    (e : TypeId) (i : TypeInfo) (z : Value) (size bytes : Nat) (h1 : P.underlying t = some (.slice e)) (h2 : P.info? e = some i) (h3 : i.zero = some z) (h4 : i.size = size) (h5 : i.bytes = bytes) (h6 : z.cells.size = size) (h7 : 0 < size)
    (v : Value) (n : Nat) (olds : List Value) (hs : a.eval s = v) (hown : w.ownsRow B e size v n olds)
    (ad : Addr) (m c : Nat) (news : List Value) (hx : a.eval x = .slice (some ad) m c) (hn : news.length = m * size) (hc : ∀ j u, news[j]? = some u → w.cell? (ad.add j) = some u) (h1c : ∀ u ∈ news, u.oneCell' = true)
    (b1 : n + m ≤ maxLen) (b2 : (n + m) * bytes ≤ 140737488355328) (hB : B ≤ w.heap.size)
    (hK : ∀ v' w', w'.ownsRow B e size v' (n + m) (olds ++ news) → w.grownBy w' v.ownBlock → K (a.put o.dst v') w') :
    if Region.wanted o (yielded ops a.tmps) = true then Oper.wp P o a w K Q else E := by
  have hw : Region.wanted o (yielded ops a.tmps) = true := by simp [Region.wanted, hg]
  rw [if_pos hw]
  obtain ⟨v', w', hrun, r1, r2, _⟩ := run_append_own (P := P) w B t o.type e i z size bytes h1 h2 h3 h4 h5 h6 h7 v n olds hown ad m c news hn hc h1c b1 b2 hB
  unfold Oper.wp
  simp [execOp, hop, resolve, invoke, builtin, hs, hx, hrun, Result.andThen]
  exact hK v' w' r1 r2
/-- How long the list is that lies first in a block. -/
def lenAt (g : Nat) (W : World) : Nat := match W.cell? ⟨g, 0, none⟩ with
  | some (.slice _ n _) => n
  | _ => 0
theorem lenAt_row {g : Nat} {W : World} {T : TypeId} {a : Option Addr} {n c : Nat} {x y : Value} (h : W.rowIs g T 3 (rowN [.slice a n c, x, y])) : lenAt g W = n := by
  obtain ⟨⟨c0, _, _⟩, _⟩ := rowN3 h
  unfold lenAt
  rw [c0]
set_option maxRecDepth 100000 in
set_option maxHeartbeats 16000000 in
theorem dplan_any (sb : Nat) (w : World) (hS : Src sb w) :
    Calls Tryz.prog 44 #[.pointer (some ⟨sb, 0, none⟩)] w fun e w' => (∃ (n : Pl.Plan) (la : Option Addr) (lk : Nat) (fa : Option Addr) (fk : Nat) (wa : Option Addr) (wk : Nat), e = .returned (plV n la lk fa fk wa wk) ∧ PlAt n la fa wa w' ∧ PlSmall n ∧ PlOff sb la fa wa ∧ (fa = none → n.sn = 0) ∧ n.rn ≤ 1000 ∧ n.hn ≤ 1000) ∧ Drew sb w w' := by
  obtain ⟨i0, hi0, hi1, hi2, hi3⟩ := info_parts yinfo_i64
  obtain ⟨j0, hj0, hj1, hj2, hj3⟩ := info_parts rinfo
  have HSR := Lib.hid hS
  have hsb := hS.lt
  obtain ⟨W, hW⟩ : ∃ W, W = (w.alloc (.cells #[.slice none 0 0, .slice none 0 0, .slice none 0 0] 32)).alloc (.cells #[.slice none 0 0, .slice none 0 0, .slice none 0 0] 32) := ⟨_, rfl⟩
  have hb : Below w.heap.size w W := by rw [hW]; exact (nbel_alloc _ _).alloc (by simp) _
  have HR : Hid (W.rowIs (w.heap.size + 1) 32 3 (rowN [.slice none 0 0, .slice none 0 0, .slice none 0 0])) := by show World.rowIs _ _ _ _ _; rw [hW]; exact rowN_alloc' (by simp) _ _
  have HM : Hid (PM w sb (.slice none 0 0) (.slice none 0 0) (.slice none 0 0) 0 0 0 W) := by
    refine ⟨⟨hS.below hb, Chg.of_below hb⟩, hsb, ?_, OwZ.nil _ _ _ _, OwZ.nil _ _ _ _, W.heap.size, hb.size, Nat.le_refl _, OwZ.nil _ _ _ _, fun k e => by cases e⟩
    rw [hW]; exact nrow_below (rowN_alloc w _ _) (nbel_alloc _ _)
  have HW := Lib.hid hW
  obtain ⟨size, c3, hz0, hz1⟩ := src_size HM.out.src.1
  rw [hW] at c3
  obtain ⟨q0, hq0⟩ : ∃ q, q = size.tdiv 2 := ⟨_, rfl⟩
  have hq2 : 0 ≤ q0 ∧ q0 ≤ 6 := by rw [hq0, Int.tdiv_eq_ediv_of_nonneg hz0]; omega
  have hqr : size.tdiv 2 = q0 := hq0.symm
  clear hS hW hb hq0
  go_enter Tryz.func44, Tryz.ntmps44
  go_wp2_with fail
  rw [← HW.out]
  clear HW c3
  refine (n_any sb _ _ HM.out.src.1 (by omega)).mono ?_
  rintro e w1 ⟨⟨v, rfl, v0, v1, _⟩, hD⟩
  have hv : v < 10 := by have := v1 (by omega); omega
  replace HM := Lib.hid (HM.out.draw hD)
  replace HR := Lib.hid (row_chg HR.out (by omega) hD.2)
  clear hD v1 hqr hz0 hz1 hq2
  go_wp2_with fail
  refine (one_any sb 40 _ HM.out.src.1 (by omega)).mono ?_
  rintro e w2 ⟨⟨bb, rfl⟩, hD⟩
  replace HM := Lib.hid (HM.out.draw hD)
  replace HR := Lib.hid (row_chg HR.out (by omega) hD.2)
  clear hD
  go_upto_if 18 with fail
  go_cut [4] from 19 to 21 (fun nv V => ∃ N : Nat, nv = .int .i64 N ∧ 2 ≤ N ∧ N ≤ 41 ∧ Hid (PM w sb (.slice none 0 0) (.slice none 0 0) (.slice none 0 0) 0 0 0 V ∧ V.rowIs (w.heap.size + 1) 32 3 (rowN [.slice none 0 0, .slice none 0 0, .slice none 0 0])))
  case first =>
    cases bb with
    | true =>
      go_wp2_with fail
      refine (n_any sb 3 _ HM.out.src.1 (by omega)).mono ?_
      rintro e w3 ⟨⟨x, rfl, x0, x1, _⟩, hD⟩
      have hx : x < 3 := x1 (by omega)
      replace HM := Lib.hid (HM.out.draw hD)
      replace HR := Lib.hid (row_chg HR.out (by omega) hD.2)
      clear hD x1
      go_wp2_with fail
      go_meet
      case rel => exact ⟨(39 + x).toNat, by congr 1; omega, by omega, by omega, HM.out, HR.out⟩
    | false =>
      go_wp2_with fail
      go_meet
      case rel => exact ⟨(2 + v).toNat, by congr 1; omega, by omega, by omega, HM.out, HR.out⟩
  case rest =>
  obtain ⟨N, rfl, hN2, hN4, hC⟩ := hcut
  clear HM HR v0 hv
  have HM := Lib.hid hC.out.1
  have HR := Lib.hid hC.out.2
  clear hC
  obtain ⟨⟨y0, y1, y2⟩, f0, f1, f2⟩ := rowN3 HR.out
  have hl0 := HR.out.lt
  go_wp2_with fail
  refine (dlist_any sb N (by omega) _ HM.out.src.1).mono ?_
  rintro e w4 ⟨hv, rfl, zs, hzl, hown, hD, _⟩
  clear y0 y1 y2 f0 f1 f2 hl0
  have HHO : Hid (OwZ 2 1 w.heap.size hv N w4) := OwZ.low ⟨zs, by rw [← hzl]; exact hown⟩ HM.out.src.2.size
  have HHL : Hid (∀ k, hv.ownBlock = some k → k < w4.heap.size) := fun k e => (hown.lt k e).2
  replace HM := Lib.hid (HM.out.draw hD)
  replace HR := Lib.hid (row_chg HR.out (by omega) hD.2)
  clear hown hD hzl
  obtain ⟨ha, hc, rfl, _⟩ := HHO.out.shape
  obtain ⟨⟨y0, y1, y2⟩, f0, f1, f2⟩ := rowN3 HR.out
  have hl0 := HR.out.lt
  obtain ⟨W5, hW5⟩ : ∃ W5, W5 = w4.setCell ⟨w.heap.size + 1, 2, none⟩ (.slice ha N hc) := ⟨_, rfl⟩
  have HP5 : Hid (PDx w sb 0 0 N W5) := by
    have hm : PM w sb (.slice none 0 0) (.slice none 0 0) (.slice ha N hc) 0 0 N w4 := ⟨HM.out.src, HM.out.sbl, HM.out.res, HM.out.ro, HHO.out, w4.heap.size, HM.out.src.2.size, Nat.le_refl _, OwZ.nil _ _ _ _, HHL.out⟩
    refine ⟨.slice none 0 0, .slice none 0 0, .slice ha N hc, ?_, ?_⟩
    · rw [hW5]; exact hm.set HR.out (by omega) _
    · rw [hW5]; exact rowN_put HR.out 2 _ (by simp)
  have HW5 := Lib.hid hW5
  clear hW5
  go_wp2_with fail
  rw [← HW5.out]
  clear HW5 HM HR HHO HHL y0 y1 y2 f0 f1 f2 hl0
  go_loopw [5, 6] (fun iv _ wr => ∃ (i : Nat) (rn : Nat), iv = .int .i64 i ∧ 1 ≤ i ∧ i ≤ N ∧ rn + 2 ≤ 2 * i ∧ Hid (PDx w sb rn 0 N wr)) (fun iv _ _ => N - (intOf iv).toNat)
  case atStart => exact ⟨1, 0, rfl, by omega, by omega, by omega, HP5⟩
  case round =>
    obtain ⟨i, rn, rfl, hi1', hiN, hrn, hP⟩ := hrel
    clear HP5
    obtain ⟨hn, hhn⟩ : ∃ hn, hn = N := ⟨_, rfl⟩
    by_cases hlt : i < N
    · have hltz : (i : Int) < (N : Int) := by omega
      obtain ⟨rv, sv, hv, hM, hR⟩ := hP.out
      rw [← hhn] at hM
      obtain ⟨ra, rc, rfl, _⟩ := hM.ro.shape
      obtain ⟨sa, sc, rfl, _⟩ := hM.so.shape
      obtain ⟨ha, hc, rfl, _⟩ := hM.ho.shape
      have HM := Lib.hid hM
      have HR := Lib.hid hR
      obtain ⟨WW, hWW⟩ : ∃ WW, WW = wr := ⟨_, rfl⟩
      rw [← hWW] at HM HR ⊢
      clear hP hM hR hWW
      go_wp2_with fail
      go_cut [] (fun V => Hid (PDx w sb (rn + 1) 0 hn V))
      case first =>
        refine region_L (fun V => V.rowIs (w.heap.size + 1) 32 3 (rowN [(.slice ra rn rc), (.slice sa 0 sc), (.slice ha hn hc)])) 15 (by kernel_rfl) (nrow_below HR.out (Below.refl _ _).drew) (fun hHeld => ?_)
        obtain ⟨Z, hZ⟩ : ∃ Z, Z = WW.drew := ⟨_, rfl⟩
        replace HM : Hid (PM w sb (.slice ra rn rc) (.slice sa 0 sc) (.slice ha hn hc) rn 0 hn Z) := by show PM _ _ _ _ _ _ _ _ _; rw [hZ]; exact HM.out.below (Below.refl _ _).drew
        replace HR : Hid (Z.rowIs (w.heap.size + 1) 32 3 (rowN [(.slice ra rn rc), (.slice sa 0 sc), (.slice ha hn hc)])) := by show World.rowIs _ _ _ _ _; rw [hZ]; exact nrow_below HR.out (Below.refl _ _).drew
        rw [← hZ] at hHeld ⊢
        clear hZ
        refine takeL_do (i := 0) (v := (.pointer (some ⟨w.heap.size + 1, 0, none⟩))) rfl (by kernel_rfl) (by kernel_rfl) (by kernel_rfl) (by kernel_rfl) (fun _ _ _ h => h) (by rfl) ?_ (by assumption) ?_
        · intro w hSw
          skip
          go_simp
        simp only [Act.put, List.setIfInBounds_toArray, List.set_cons_zero, List.set_cons_succ]
        refine takeL_do (i := 1) (v := (.slice ra rn rc)) rfl (by kernel_rfl) (by kernel_rfl) (by kernel_rfl) (by kernel_rfl) (fun _ _ _ h => h) (by rfl) ?_ (by assumption) ?_
        · intro w hSw
          obtain ⟨⟨x0, x1, x2⟩, _⟩ := rowN3 hSw
          go_simp
        simp only [Act.put, List.setIfInBounds_toArray, List.set_cons_zero, List.set_cons_succ]
        refine takeL_do (i := 2) (v := (.pointer (some ⟨sb, 0, none⟩))) rfl (by kernel_rfl) (by kernel_rfl) (by kernel_rfl) (by kernel_rfl) (fun _ _ _ h => h) (by rfl) ?_ (by assumption) ?_
        · intro w hSw
          skip
          go_simp
        simp only [Act.put, List.setIfInBounds_toArray, List.set_cons_zero, List.set_cons_succ]
        refine takeL_do (i := 3) (v := (.int .i64 i)) rfl (by kernel_rfl) (by kernel_rfl) (by kernel_rfl) (by kernel_rfl) (fun _ _ _ h => h) (by rfl) ?_ (by assumption) ?_
        · intro w hSw
          skip
          go_simp
        simp only [Act.put, List.setIfInBounds_toArray, List.set_cons_zero, List.set_cons_succ]
        refine takeL_do (i := 5) (v := (.int .i64 i)) rfl (by kernel_rfl) (by kernel_rfl) (by kernel_rfl) (by kernel_rfl) (fun _ _ _ h => h) (by rfl) ?_ (by assumption) ?_
        · intro w hSw
          skip
          go_simp
        simp only [Act.put, List.setIfInBounds_toArray, List.set_cons_zero, List.set_cons_succ]
        refine takeL_do (i := 7) (v := (.pointer (some ⟨sb, 0, none⟩))) rfl (by kernel_rfl) (by kernel_rfl) (by kernel_rfl) (by kernel_rfl) (fun _ _ _ h => h) (by rfl) ?_ (by assumption) ?_
        · intro w hSw
          skip
          go_simp
        simp only [Act.put, List.setIfInBounds_toArray, List.set_cons_zero, List.set_cons_succ]
        refine L_ready (rs := [4, 6]) (by kernel_rfl) (by simp) (AllL.cons (i := 4) rfl (fun K2 hK => ?_) (AllL.cons (i := 6) rfl (fun K2 hK => ?_) AllL.nil))
        · go_simp
          refine (n_any sb i _ HM.out.src.1 (by omega)).mono ?_
          rintro e Z1 ⟨⟨v1, rfl, v10, v11, _⟩, hD⟩
          have v1b : 0 ≤ v1 := by omega
          clear v10 v11
          replace HM := Lib.hid (HM.out.draw hD)
          replace HR := Lib.hid (row_chg HR.out (by have := HM.out.sbl; omega) hD.2)
          clear hD
          go_wp2_with fail
          refine hK.out _ _ HR.out (fun hHeld2 => ?_)
          clear hK hHeld
          have hHeld := hHeld2
          clear hHeld2
          refine L_ready (rs := [6, 8]) (by kernel_rfl) (by simp) (AllL.cons (i := 6) rfl (fun K2 hK => ?_) (AllL.cons (i := 8) rfl (fun K2 hK => ?_) AllL.nil))
          · obtain ⟨Z2, hZ2⟩ : ∃ Z2, Z2 = Z1.alloc (.cells #[.int .i64 1, .int .i64 1, .int .i64 1, .int .i64 0, .int .i64 2] 2) := ⟨_, rfl⟩
            have hb : Below Z1.heap.size Z1 Z2 := by rw [hZ2]; exact nbel_alloc _ _
            obtain ⟨gq, hgq⟩ : ∃ gq, gq = Z1.heap.size := ⟨_, rfl⟩
            have HQ : Hid (Z2.rowIs gq 2 5 (rowN [.int .i64 1, .int .i64 1, .int .i64 1, .int .i64 0, .int .i64 2])) := by show World.rowIs _ _ _ _ _; rw [hZ2, hgq]; exact rowN_alloc _ _ _
            have HQL : Hid (w.heap.size ≤ gq) := by show _ ≤ _; rw [hgq]; exact HM.out.src.2.size
            replace HM := Lib.hid (HM.out.below hb)
            replace HR := Lib.hid (nrow_below HR.out hb)
            go_simp
            rw [← hZ2, ← hgq]
            refine hK.out _ _ HR.out (fun hHeld2 => ?_)
            clear hK hHeld
            have hHeld := hHeld2
            clear hHeld2
            clear hb hZ2 hgq
            refine takeL_call (i := 8) rfl (by kernel_rfl) (fun K2 hK => ?_)
            go_simp
            refine (n_any sb 5 _ HM.out.src.1 (by omega)).mono ?_
            rintro e Z3 ⟨⟨v2, rfl, v20, v21, _⟩, hD⟩
            have v2b : 0 ≤ v2 ∧ v2 < 5 := by have := v21 (by omega); omega
            clear v20 v21
            replace HM := Lib.hid (HM.out.draw hD)
            replace HR := Lib.hid (row_chg HR.out (by have := HM.out.sbl; omega) hD.2)
            replace HQ := Lib.hid (row_chg HQ.out (by have := HM.out.sbl; have := HQL.out; omega) hD.2)
            clear hD
            go_wp2_with fail
            refine hK.out _ _ HR.out (fun hHeld2 => ?_)
            clear hK hHeld
            have hHeld := hHeld2
            clear hHeld2
            refine takeL_do (i := 9) (v := (.pointer (some ⟨gq, v2.toNat, none⟩))) rfl (by kernel_rfl) (by kernel_rfl) (by kernel_rfl) (by kernel_rfl) (fun _ _ _ h => h) (by rfl) ?_ (by assumption) ?_
            · intro w hSw
              skip
              go_simp
              try (intro hq; exfalso; omega)
            simp only [Act.put, List.setIfInBounds_toArray, List.set_cons_zero, List.set_cons_succ]
            refine takeL_call (i := 10) rfl (by kernel_rfl) (fun K2 hK => ?_)
            obtain ⟨V, hV⟩ : ∃ V : Int, Z3.cell? ⟨gq, v2.toNat, none⟩ = some (.int .i64 V) := by
              obtain ⟨⟨c0, c1, c2, c3, c4⟩, _⟩ := rowN5 HQ.out
              have h5 : v2.toNat = 0 ∨ v2.toNat = 1 ∨ v2.toNat = 2 ∨ v2.toNat = 3 ∨ v2.toNat = 4 := by omega
              rcases h5 with h | h | h | h | h <;> rw [h]
              · exact ⟨_, c0⟩
              · exact ⟨_, c1⟩
              · exact ⟨_, c2⟩
              · exact ⟨_, c3⟩
              · exact ⟨_, c4⟩
            go_simp
            refine hK.out _ _ HR.out (fun hHeld2 => ?_)
            clear hK hHeld
            have hHeld := hHeld2
            clear hHeld2
            clear hV HQ HQL
            refine takeL_do (i := 11) (v := (.agg #[.int .i64 v1, .int .i64 i, .int .i64 V])) rfl (by kernel_rfl) (by kernel_rfl) (by kernel_rfl) (by kernel_rfl) (fun _ _ _ h => h) (by rfl) ?_ (by assumption) ?_
            · intro w hSw
              skip
              go_simp
            simp only [Act.put, List.setIfInBounds_toArray, List.set_cons_zero, List.set_cons_succ]
            refine takeL_call (i := 12) rfl (by kernel_rfl) (fun K2 hK => ?_)
            obtain ⟨Z4, hZ4⟩ : ∃ Z4, Z4 = Z3.alloc (.cells #[.int .i64 v1, .int .i64 i, .int .i64 V] 61) := ⟨_, rfl⟩
            have hb : Below Z3.heap.size Z3 Z4 := by rw [hZ4]; exact nbel_alloc _ _
            obtain ⟨gs, hgs⟩ : ∃ gs, gs = Z3.heap.size := ⟨_, rfl⟩
            have HL : Hid (Z4.rowIs gs 61 3 (rowN [.int .i64 v1, .int .i64 i, .int .i64 V])) := by show World.rowIs _ _ _ _ _; rw [hZ4, hgs]; exact rowN_alloc _ _ _
            replace HM := Lib.hid (HM.out.below hb)
            replace HR := Lib.hid (nrow_below HR.out hb)
            go_simp
            rw [← hZ4, ← hgs]
            refine hK.out _ _ HR.out (fun hHeld2 => ?_)
            clear hK hHeld
            have hHeld := hHeld2
            clear hHeld2
            clear hb hZ4 hgs
            refine takeL_call (i := 13) rfl (by kernel_rfl) (fun K2 hK => ?_)
            obtain ⟨zs, hown⟩ := HM.out.ro
            refine dyap rfl (.tmp 32) (.tmp 43) 30 rfl (w.heap.size) 61 j0 (.agg #[.int .i64 0, .int .i64 0, .int .i64 0]) 3 24 Tryz.underlying30 hj0 hj1 hj2 hj3 rfl (by decide) (.slice ra rn rc) rn _ rfl hown ⟨gs, 0, none⟩ 1 1 [.int .i64 v1, .int .i64 i, .int .i64 V] rfl rfl ?_ ?_ (by unfold maxLen; omega) (by omega) (by have := HM.out.src.2.size; omega) ?_
            · obtain ⟨⟨c0, c1, c2⟩, _⟩ := rowN3 HL.out
              intro j u hj
              match j, hj with
              | 0, hj => simp at hj; subst hj; simpa [Addr.add] using c0
              | 1, hj => simp at hj; subst hj; simpa [Addr.add] using c1
              | 2, hj => simp at hj; subst hj; simpa [Addr.add] using c2
            · intro u hu
              simp at hu
              first | (subst hu; rfl) | (rcases hu with rfl | rfl | rfl <;> rfl)
            intro v' Z5 hown2 hgrow
            have hoz : OwZ 61 3 (w.heap.size) v' (rn + 1) Z5 := ⟨zs ++ ([(v1 : Int), (i : Int), (V : Int)] : List Int), by rw [List.map_append]; exact hown2⟩
            obtain ⟨a9, c9, rfl, _⟩ := hoz.shape
            have HOZ := Lib.hid hoz
            clear hoz
            replace HR := Lib.hid (row_grown HR.out HM.out.ro (by decide) hgrow)
            replace HM := Lib.hid (HM.out.rows hgrow HOZ.out)
            refine hK.out _ _ HR.out (fun hHeld2 => ?_)
            clear hK hHeld hown hown2 hgrow HL HOZ
            have hHeld := hHeld2
            clear hHeld2
            simp only [Act.put, List.setIfInBounds_toArray, List.set_cons_zero, List.set_cons_succ]
            refine takeL_do (i := 14) (v := (.pointer (some ⟨w.heap.size + 1, 0, none⟩))) rfl (by kernel_rfl) (by kernel_rfl) (by kernel_rfl) (by kernel_rfl) (fun _ _ _ h => h) (by rfl) ?_ (by assumption) ?_
            · intro w hSw
              skip
              go_simp
            simp only [Act.put, List.setIfInBounds_toArray, List.set_cons_zero, List.set_cons_succ]
            obtain ⟨⟨o0, o1, o2⟩, z0, z1, z2⟩ := rowN3 HR.out
            have l0 := HR.out.lt
            obtain ⟨WZ, hWZ⟩ : ∃ WZ, WZ = Z5.setCell ⟨w.heap.size + 1, 0, none⟩ (.slice a9 (rn + 1) c9) := ⟨_, rfl⟩
            have HPX : Hid (PDx w sb (rn + 1) 0 hn WZ) := by
              refine ⟨(.slice a9 (rn + 1) c9), (.slice sa 0 sc), (.slice ha hn hc), ?_, ?_⟩
              · rw [hWZ]; exact HM.out.set HR.out (by omega) _
              · rw [hWZ]; exact rowN_put HR.out 0 _ (by simp)
            have HWZ := Lib.hid hWZ
            clear hWZ
            refine takeL_last rfl (by kernel_rfl) (by kernel_rfl) (fun K2 hK => ?_)
            go_simp
            rw [← HWZ.out]
            refine hK.out _ _ ?_
            clear hK hHeld HWZ o0 o1 o2 z0 z1 z2 l0 HM HR
            go_wp2_with fail
            go_meet
            exact HPX
          · go_simp
            refine (n_any sb 5 _ HM.out.src.1 (by omega)).mono ?_
            rintro e Z6 ⟨⟨v2, rfl, v20, v21, _⟩, hD⟩
            have v2b : 0 ≤ v2 ∧ v2 < 5 := by have := v21 (by omega); omega
            clear v20 v21
            replace HM := Lib.hid (HM.out.draw hD)
            replace HR := Lib.hid (row_chg HR.out (by have := HM.out.sbl; omega) hD.2)
            clear hD
            go_wp2_with fail
            refine hK.out _ _ HR.out (fun hHeld2 => ?_)
            clear hK hHeld
            have hHeld := hHeld2
            clear hHeld2
            refine takeL_call (i := 6) rfl (by kernel_rfl) (fun K2 hK => ?_)
            obtain ⟨Z7, hZ7⟩ : ∃ Z7, Z7 = Z6.alloc (.cells #[.int .i64 1, .int .i64 1, .int .i64 1, .int .i64 0, .int .i64 2] 2) := ⟨_, rfl⟩
            have hb : Below Z6.heap.size Z6 Z7 := by rw [hZ7]; exact nbel_alloc _ _
            obtain ⟨gq, hgq⟩ : ∃ gq, gq = Z6.heap.size := ⟨_, rfl⟩
            have HQ : Hid (Z7.rowIs gq 2 5 (rowN [.int .i64 1, .int .i64 1, .int .i64 1, .int .i64 0, .int .i64 2])) := by show World.rowIs _ _ _ _ _; rw [hZ7, hgq]; exact rowN_alloc _ _ _
            have HQL : Hid (w.heap.size ≤ gq) := by show _ ≤ _; rw [hgq]; exact HM.out.src.2.size
            replace HM := Lib.hid (HM.out.below hb)
            replace HR := Lib.hid (nrow_below HR.out hb)
            go_simp
            rw [← hZ7, ← hgq]
            refine hK.out _ _ HR.out (fun hHeld2 => ?_)
            clear hK hHeld
            have hHeld := hHeld2
            clear hHeld2
            clear hb hZ7 hgq
            refine takeL_do (i := 9) (v := (.pointer (some ⟨gq, v2.toNat, none⟩))) rfl (by kernel_rfl) (by kernel_rfl) (by kernel_rfl) (by kernel_rfl) (fun _ _ _ h => h) (by rfl) ?_ (by assumption) ?_
            · intro w hSw
              skip
              go_simp
              try (intro hq; exfalso; omega)
            simp only [Act.put, List.setIfInBounds_toArray, List.set_cons_zero, List.set_cons_succ]
            refine takeL_call (i := 10) rfl (by kernel_rfl) (fun K2 hK => ?_)
            obtain ⟨V, hV⟩ : ∃ V : Int, Z7.cell? ⟨gq, v2.toNat, none⟩ = some (.int .i64 V) := by
              obtain ⟨⟨c0, c1, c2, c3, c4⟩, _⟩ := rowN5 HQ.out
              have h5 : v2.toNat = 0 ∨ v2.toNat = 1 ∨ v2.toNat = 2 ∨ v2.toNat = 3 ∨ v2.toNat = 4 := by omega
              rcases h5 with h | h | h | h | h <;> rw [h]
              · exact ⟨_, c0⟩
              · exact ⟨_, c1⟩
              · exact ⟨_, c2⟩
              · exact ⟨_, c3⟩
              · exact ⟨_, c4⟩
            go_simp
            refine hK.out _ _ HR.out (fun hHeld2 => ?_)
            clear hK hHeld
            have hHeld := hHeld2
            clear hHeld2
            clear hV HQ HQL
            refine takeL_do (i := 11) (v := (.agg #[.int .i64 v1, .int .i64 i, .int .i64 V])) rfl (by kernel_rfl) (by kernel_rfl) (by kernel_rfl) (by kernel_rfl) (fun _ _ _ h => h) (by rfl) ?_ (by assumption) ?_
            · intro w hSw
              skip
              go_simp
            simp only [Act.put, List.setIfInBounds_toArray, List.set_cons_zero, List.set_cons_succ]
            refine takeL_call (i := 12) rfl (by kernel_rfl) (fun K2 hK => ?_)
            obtain ⟨Z8, hZ8⟩ : ∃ Z8, Z8 = Z7.alloc (.cells #[.int .i64 v1, .int .i64 i, .int .i64 V] 61) := ⟨_, rfl⟩
            have hb : Below Z7.heap.size Z7 Z8 := by rw [hZ8]; exact nbel_alloc _ _
            obtain ⟨gs, hgs⟩ : ∃ gs, gs = Z7.heap.size := ⟨_, rfl⟩
            have HL : Hid (Z8.rowIs gs 61 3 (rowN [.int .i64 v1, .int .i64 i, .int .i64 V])) := by show World.rowIs _ _ _ _ _; rw [hZ8, hgs]; exact rowN_alloc _ _ _
            replace HM := Lib.hid (HM.out.below hb)
            replace HR := Lib.hid (nrow_below HR.out hb)
            go_simp
            rw [← hZ8, ← hgs]
            refine hK.out _ _ HR.out (fun hHeld2 => ?_)
            clear hK hHeld
            have hHeld := hHeld2
            clear hHeld2
            clear hb hZ8 hgs
            refine takeL_call (i := 13) rfl (by kernel_rfl) (fun K2 hK => ?_)
            obtain ⟨zs, hown⟩ := HM.out.ro
            refine dyap rfl (.tmp 32) (.tmp 43) 30 rfl (w.heap.size) 61 j0 (.agg #[.int .i64 0, .int .i64 0, .int .i64 0]) 3 24 Tryz.underlying30 hj0 hj1 hj2 hj3 rfl (by decide) (.slice ra rn rc) rn _ rfl hown ⟨gs, 0, none⟩ 1 1 [.int .i64 v1, .int .i64 i, .int .i64 V] rfl rfl ?_ ?_ (by unfold maxLen; omega) (by omega) (by have := HM.out.src.2.size; omega) ?_
            · obtain ⟨⟨c0, c1, c2⟩, _⟩ := rowN3 HL.out
              intro j u hj
              match j, hj with
              | 0, hj => simp at hj; subst hj; simpa [Addr.add] using c0
              | 1, hj => simp at hj; subst hj; simpa [Addr.add] using c1
              | 2, hj => simp at hj; subst hj; simpa [Addr.add] using c2
            · intro u hu
              simp at hu
              first | (subst hu; rfl) | (rcases hu with rfl | rfl | rfl <;> rfl)
            intro v' Z9 hown2 hgrow
            have hoz : OwZ 61 3 (w.heap.size) v' (rn + 1) Z9 := ⟨zs ++ ([(v1 : Int), (i : Int), (V : Int)] : List Int), by rw [List.map_append]; exact hown2⟩
            obtain ⟨a9, c9, rfl, _⟩ := hoz.shape
            have HOZ := Lib.hid hoz
            clear hoz
            replace HR := Lib.hid (row_grown HR.out HM.out.ro (by decide) hgrow)
            replace HM := Lib.hid (HM.out.rows hgrow HOZ.out)
            refine hK.out _ _ HR.out (fun hHeld2 => ?_)
            clear hK hHeld hown hown2 hgrow HL HOZ
            have hHeld := hHeld2
            clear hHeld2
            simp only [Act.put, List.setIfInBounds_toArray, List.set_cons_zero, List.set_cons_succ]
            refine takeL_do (i := 14) (v := (.pointer (some ⟨w.heap.size + 1, 0, none⟩))) rfl (by kernel_rfl) (by kernel_rfl) (by kernel_rfl) (by kernel_rfl) (fun _ _ _ h => h) (by rfl) ?_ (by assumption) ?_
            · intro w hSw
              skip
              go_simp
            simp only [Act.put, List.setIfInBounds_toArray, List.set_cons_zero, List.set_cons_succ]
            obtain ⟨⟨o0, o1, o2⟩, z0, z1, z2⟩ := rowN3 HR.out
            have l0 := HR.out.lt
            obtain ⟨WZ, hWZ⟩ : ∃ WZ, WZ = Z9.setCell ⟨w.heap.size + 1, 0, none⟩ (.slice a9 (rn + 1) c9) := ⟨_, rfl⟩
            have HPX : Hid (PDx w sb (rn + 1) 0 hn WZ) := by
              refine ⟨(.slice a9 (rn + 1) c9), (.slice sa 0 sc), (.slice ha hn hc), ?_, ?_⟩
              · rw [hWZ]; exact HM.out.set HR.out (by omega) _
              · rw [hWZ]; exact rowN_put HR.out 0 _ (by simp)
            have HWZ := Lib.hid hWZ
            clear hWZ
            refine takeL_last rfl (by kernel_rfl) (by kernel_rfl) (fun K2 hK => ?_)
            go_simp
            rw [← HWZ.out]
            refine hK.out _ _ ?_
            clear hK hHeld HWZ o0 o1 o2 z0 z1 z2 l0 HM HR
            go_wp2_with fail
            go_meet
            exact HPX
        · obtain ⟨Z10, hZ10⟩ : ∃ Z10, Z10 = Z.alloc (.cells #[.int .i64 1, .int .i64 1, .int .i64 1, .int .i64 0, .int .i64 2] 2) := ⟨_, rfl⟩
          have hb : Below Z.heap.size Z Z10 := by rw [hZ10]; exact nbel_alloc _ _
          obtain ⟨gq, hgq⟩ : ∃ gq, gq = Z.heap.size := ⟨_, rfl⟩
          have HQ : Hid (Z10.rowIs gq 2 5 (rowN [.int .i64 1, .int .i64 1, .int .i64 1, .int .i64 0, .int .i64 2])) := by show World.rowIs _ _ _ _ _; rw [hZ10, hgq]; exact rowN_alloc _ _ _
          have HQL : Hid (w.heap.size ≤ gq) := by show _ ≤ _; rw [hgq]; exact HM.out.src.2.size
          replace HM := Lib.hid (HM.out.below hb)
          replace HR := Lib.hid (nrow_below HR.out hb)
          go_simp
          rw [← hZ10, ← hgq]
          refine hK.out _ _ HR.out (fun hHeld2 => ?_)
          clear hK hHeld
          have hHeld := hHeld2
          clear hHeld2
          clear hb hZ10 hgq
          refine takeL_call (i := 4) rfl (by kernel_rfl) (fun K2 hK => ?_)
          go_simp
          refine (n_any sb i _ HM.out.src.1 (by omega)).mono ?_
          rintro e Z11 ⟨⟨v1, rfl, v10, v11, _⟩, hD⟩
          have v1b : 0 ≤ v1 := by omega
          clear v10 v11
          replace HM := Lib.hid (HM.out.draw hD)
          replace HR := Lib.hid (row_chg HR.out (by have := HM.out.sbl; omega) hD.2)
          replace HQ := Lib.hid (row_chg HQ.out (by have := HM.out.sbl; have := HQL.out; omega) hD.2)
          clear hD
          go_wp2_with fail
          refine hK.out _ _ HR.out (fun hHeld2 => ?_)
          clear hK hHeld
          have hHeld := hHeld2
          clear hHeld2
          refine takeL_call (i := 8) rfl (by kernel_rfl) (fun K2 hK => ?_)
          go_simp
          refine (n_any sb 5 _ HM.out.src.1 (by omega)).mono ?_
          rintro e Z12 ⟨⟨v2, rfl, v20, v21, _⟩, hD⟩
          have v2b : 0 ≤ v2 ∧ v2 < 5 := by have := v21 (by omega); omega
          clear v20 v21
          replace HM := Lib.hid (HM.out.draw hD)
          replace HR := Lib.hid (row_chg HR.out (by have := HM.out.sbl; omega) hD.2)
          replace HQ := Lib.hid (row_chg HQ.out (by have := HM.out.sbl; have := HQL.out; omega) hD.2)
          clear hD
          go_wp2_with fail
          refine hK.out _ _ HR.out (fun hHeld2 => ?_)
          clear hK hHeld
          have hHeld := hHeld2
          clear hHeld2
          refine takeL_do (i := 9) (v := (.pointer (some ⟨gq, v2.toNat, none⟩))) rfl (by kernel_rfl) (by kernel_rfl) (by kernel_rfl) (by kernel_rfl) (fun _ _ _ h => h) (by rfl) ?_ (by assumption) ?_
          · intro w hSw
            skip
            go_simp
            try (intro hq; exfalso; omega)
          simp only [Act.put, List.setIfInBounds_toArray, List.set_cons_zero, List.set_cons_succ]
          refine takeL_call (i := 10) rfl (by kernel_rfl) (fun K2 hK => ?_)
          obtain ⟨V, hV⟩ : ∃ V : Int, Z12.cell? ⟨gq, v2.toNat, none⟩ = some (.int .i64 V) := by
            obtain ⟨⟨c0, c1, c2, c3, c4⟩, _⟩ := rowN5 HQ.out
            have h5 : v2.toNat = 0 ∨ v2.toNat = 1 ∨ v2.toNat = 2 ∨ v2.toNat = 3 ∨ v2.toNat = 4 := by omega
            rcases h5 with h | h | h | h | h <;> rw [h]
            · exact ⟨_, c0⟩
            · exact ⟨_, c1⟩
            · exact ⟨_, c2⟩
            · exact ⟨_, c3⟩
            · exact ⟨_, c4⟩
          go_simp
          refine hK.out _ _ HR.out (fun hHeld2 => ?_)
          clear hK hHeld
          have hHeld := hHeld2
          clear hHeld2
          clear hV HQ HQL
          refine takeL_do (i := 11) (v := (.agg #[.int .i64 v1, .int .i64 i, .int .i64 V])) rfl (by kernel_rfl) (by kernel_rfl) (by kernel_rfl) (by kernel_rfl) (fun _ _ _ h => h) (by rfl) ?_ (by assumption) ?_
          · intro w hSw
            skip
            go_simp
          simp only [Act.put, List.setIfInBounds_toArray, List.set_cons_zero, List.set_cons_succ]
          refine takeL_call (i := 12) rfl (by kernel_rfl) (fun K2 hK => ?_)
          obtain ⟨Z13, hZ13⟩ : ∃ Z13, Z13 = Z12.alloc (.cells #[.int .i64 v1, .int .i64 i, .int .i64 V] 61) := ⟨_, rfl⟩
          have hb : Below Z12.heap.size Z12 Z13 := by rw [hZ13]; exact nbel_alloc _ _
          obtain ⟨gs, hgs⟩ : ∃ gs, gs = Z12.heap.size := ⟨_, rfl⟩
          have HL : Hid (Z13.rowIs gs 61 3 (rowN [.int .i64 v1, .int .i64 i, .int .i64 V])) := by show World.rowIs _ _ _ _ _; rw [hZ13, hgs]; exact rowN_alloc _ _ _
          replace HM := Lib.hid (HM.out.below hb)
          replace HR := Lib.hid (nrow_below HR.out hb)
          go_simp
          rw [← hZ13, ← hgs]
          refine hK.out _ _ HR.out (fun hHeld2 => ?_)
          clear hK hHeld
          have hHeld := hHeld2
          clear hHeld2
          clear hb hZ13 hgs
          refine takeL_call (i := 13) rfl (by kernel_rfl) (fun K2 hK => ?_)
          obtain ⟨zs, hown⟩ := HM.out.ro
          refine dyap rfl (.tmp 32) (.tmp 43) 30 rfl (w.heap.size) 61 j0 (.agg #[.int .i64 0, .int .i64 0, .int .i64 0]) 3 24 Tryz.underlying30 hj0 hj1 hj2 hj3 rfl (by decide) (.slice ra rn rc) rn _ rfl hown ⟨gs, 0, none⟩ 1 1 [.int .i64 v1, .int .i64 i, .int .i64 V] rfl rfl ?_ ?_ (by unfold maxLen; omega) (by omega) (by have := HM.out.src.2.size; omega) ?_
          · obtain ⟨⟨c0, c1, c2⟩, _⟩ := rowN3 HL.out
            intro j u hj
            match j, hj with
            | 0, hj => simp at hj; subst hj; simpa [Addr.add] using c0
            | 1, hj => simp at hj; subst hj; simpa [Addr.add] using c1
            | 2, hj => simp at hj; subst hj; simpa [Addr.add] using c2
          · intro u hu
            simp at hu
            first | (subst hu; rfl) | (rcases hu with rfl | rfl | rfl <;> rfl)
          intro v' Z14 hown2 hgrow
          have hoz : OwZ 61 3 (w.heap.size) v' (rn + 1) Z14 := ⟨zs ++ ([(v1 : Int), (i : Int), (V : Int)] : List Int), by rw [List.map_append]; exact hown2⟩
          obtain ⟨a9, c9, rfl, _⟩ := hoz.shape
          have HOZ := Lib.hid hoz
          clear hoz
          replace HR := Lib.hid (row_grown HR.out HM.out.ro (by decide) hgrow)
          replace HM := Lib.hid (HM.out.rows hgrow HOZ.out)
          refine hK.out _ _ HR.out (fun hHeld2 => ?_)
          clear hK hHeld hown hown2 hgrow HL HOZ
          have hHeld := hHeld2
          clear hHeld2
          simp only [Act.put, List.setIfInBounds_toArray, List.set_cons_zero, List.set_cons_succ]
          refine takeL_do (i := 14) (v := (.pointer (some ⟨w.heap.size + 1, 0, none⟩))) rfl (by kernel_rfl) (by kernel_rfl) (by kernel_rfl) (by kernel_rfl) (fun _ _ _ h => h) (by rfl) ?_ (by assumption) ?_
          · intro w hSw
            skip
            go_simp
          simp only [Act.put, List.setIfInBounds_toArray, List.set_cons_zero, List.set_cons_succ]
          obtain ⟨⟨o0, o1, o2⟩, z0, z1, z2⟩ := rowN3 HR.out
          have l0 := HR.out.lt
          obtain ⟨WZ, hWZ⟩ : ∃ WZ, WZ = Z14.setCell ⟨w.heap.size + 1, 0, none⟩ (.slice a9 (rn + 1) c9) := ⟨_, rfl⟩
          have HPX : Hid (PDx w sb (rn + 1) 0 hn WZ) := by
            refine ⟨(.slice a9 (rn + 1) c9), (.slice sa 0 sc), (.slice ha hn hc), ?_, ?_⟩
            · rw [hWZ]; exact HM.out.set HR.out (by omega) _
            · rw [hWZ]; exact rowN_put HR.out 0 _ (by simp)
          have HWZ := Lib.hid hWZ
          clear hWZ
          refine takeL_last rfl (by kernel_rfl) (by kernel_rfl) (fun K2 hK => ?_)
          go_simp
          rw [← HWZ.out]
          refine hK.out _ _ ?_
          clear hK hHeld HWZ o0 o1 o2 z0 z1 z2 l0 HM HR
          go_wp2_with fail
          go_meet
          exact HPX
      case rest =>
      have HP9 := hcut
      clear hcut HM HR
      obtain ⟨W9, hW9⟩ : ∃ W9, W9 = wc := ⟨_, rfl⟩
      rw [← hW9] at HP9 ⊢
      clear hW9
      go_wp2_with fail
      refine (one_any sb 2 _ HP9.out.src (by omega)).mono ?_
      rintro e wa ⟨⟨b2, rfl⟩, hD⟩
      replace HP9 := Lib.hid (HP9.out.draw hD)
      clear hD
      cases b2 with
      | false =>
        go_wp2_with fail
        go_roundw
        case rel => exact ⟨i + 1, rn + 1, by go_num, by omega, by omega, by omega, by rw [← hhn]; exact HP9⟩
        case measure => simp [intOf]; omega
      | true =>
        go_wp2_with fail
        refine (n_any sb N _ HP9.out.src (by omega)).mono ?_
        rintro e wb ⟨⟨q, rfl, qb0, qb1, _⟩, hD⟩
        have hqN : q < (N : Int) := qb1 (by omega)
        replace HP9 := Lib.hid (HP9.out.draw hD)
        clear hD qb1
        by_cases hqi : q = (i : Int)
        · have hqi' : (q != (i : Int)) = false := by simp [hqi]
          go_wp2_with fail
          go_roundw
          case rel => exact ⟨i + 1, rn + 1, by go_num, by omega, by omega, by omega, by rw [← hhn]; exact HP9⟩
          case measure => simp [intOf]; omega
        have hqi' : (q != (i : Int)) = true := by simp [hqi]
        obtain ⟨rk, hrk⟩ : ∃ rk, rk = rn + 1 := ⟨_, rfl⟩
        rw [← hrk] at HP9
        have hrkb : rk + 1 ≤ 2 * i := by omega
        clear hrk
        obtain ⟨rv, sv, hv, hM, hR⟩ := HP9.out
        obtain ⟨ra, rc, rfl, _⟩ := hM.ro.shape
        obtain ⟨sa, sc, rfl, _⟩ := hM.so.shape
        obtain ⟨ha, hc, rfl, _⟩ := hM.ho.shape
        have HM := Lib.hid hM
        have HR := Lib.hid hR
        obtain ⟨WW, hWW⟩ : ∃ WW, WW = wb := ⟨_, rfl⟩
        rw [← hWW] at HM HR ⊢
        clear HP9 hM hR hWW hqi
        go_wp2_with fail
        refine region_L (fun V => V.rowIs (w.heap.size + 1) 32 3 (rowN [(.slice ra rk rc), (.slice sa 0 sc), (.slice ha hn hc)])) 13 (by kernel_rfl) (nrow_below HR.out (Below.refl _ _).drew) (fun hHeld => ?_)
        obtain ⟨Z, hZ⟩ : ∃ Z, Z = WW.drew := ⟨_, rfl⟩
        replace HM : Hid (PM w sb (.slice ra rk rc) (.slice sa 0 sc) (.slice ha hn hc) rk 0 hn Z) := by show PM _ _ _ _ _ _ _ _ _; rw [hZ]; exact HM.out.below (Below.refl _ _).drew
        replace HR : Hid (Z.rowIs (w.heap.size + 1) 32 3 (rowN [(.slice ra rk rc), (.slice sa 0 sc), (.slice ha hn hc)])) := by show World.rowIs _ _ _ _ _; rw [hZ]; exact nrow_below HR.out (Below.refl _ _).drew
        rw [← hZ] at hHeld ⊢
        clear hZ
        refine takeL_do (i := 0) (v := (.pointer (some ⟨w.heap.size + 1, 0, none⟩))) rfl (by kernel_rfl) (by kernel_rfl) (by kernel_rfl) (by kernel_rfl) (fun _ _ _ h => h) (by rfl) ?_ (by assumption) ?_
        · intro w hSw
          skip
          go_simp
        simp only [Act.put, List.setIfInBounds_toArray, List.set_cons_zero, List.set_cons_succ]
        refine takeL_do (i := 1) (v := (.slice ra rk rc)) rfl (by kernel_rfl) (by kernel_rfl) (by kernel_rfl) (by kernel_rfl) (fun _ _ _ h => h) (by rfl) ?_ (by assumption) ?_
        · intro w hSw
          obtain ⟨⟨x0, x1, x2⟩, _⟩ := rowN3 hSw
          go_simp
        simp only [Act.put, List.setIfInBounds_toArray, List.set_cons_zero, List.set_cons_succ]
        refine takeL_do (i := 2) (v := (.int .i64 i)) rfl (by kernel_rfl) (by kernel_rfl) (by kernel_rfl) (by kernel_rfl) (fun _ _ _ h => h) (by rfl) ?_ (by assumption) ?_
        · intro w hSw
          skip
          go_simp
        simp only [Act.put, List.setIfInBounds_toArray, List.set_cons_zero, List.set_cons_succ]
        refine takeL_do (i := 3) (v := (.int .i64 q)) rfl (by kernel_rfl) (by kernel_rfl) (by kernel_rfl) (by kernel_rfl) (fun _ _ _ h => h) (by rfl) ?_ (by assumption) ?_
        · intro w hSw
          skip
          go_simp
        simp only [Act.put, List.setIfInBounds_toArray, List.set_cons_zero, List.set_cons_succ]
        refine takeL_do (i := 5) (v := (.pointer (some ⟨sb, 0, none⟩))) rfl (by kernel_rfl) (by kernel_rfl) (by kernel_rfl) (by kernel_rfl) (fun _ _ _ h => h) (by rfl) ?_ (by assumption) ?_
        · intro w hSw
          skip
          go_simp
        simp only [Act.put, List.setIfInBounds_toArray, List.set_cons_zero, List.set_cons_succ]
        refine L_ready (rs := [4, 6]) (by kernel_rfl) (by simp) (AllL.cons (i := 4) rfl (fun K2 hK => ?_) (AllL.cons (i := 6) rfl (fun K2 hK => ?_) AllL.nil))
        · obtain ⟨Z15, hZ15⟩ : ∃ Z15, Z15 = Z.alloc (.cells #[.int .i64 1, .int .i64 1, .int .i64 1, .int .i64 0, .int .i64 2] 2) := ⟨_, rfl⟩
          have hb : Below Z.heap.size Z Z15 := by rw [hZ15]; exact nbel_alloc _ _
          obtain ⟨gq, hgq⟩ : ∃ gq, gq = Z.heap.size := ⟨_, rfl⟩
          have HQ : Hid (Z15.rowIs gq 2 5 (rowN [.int .i64 1, .int .i64 1, .int .i64 1, .int .i64 0, .int .i64 2])) := by show World.rowIs _ _ _ _ _; rw [hZ15, hgq]; exact rowN_alloc _ _ _
          have HQL : Hid (w.heap.size ≤ gq) := by show _ ≤ _; rw [hgq]; exact HM.out.src.2.size
          replace HM := Lib.hid (HM.out.below hb)
          replace HR := Lib.hid (nrow_below HR.out hb)
          go_simp
          rw [← hZ15, ← hgq]
          refine hK.out _ _ HR.out (fun hHeld2 => ?_)
          clear hK hHeld
          have hHeld := hHeld2
          clear hHeld2
          clear hb hZ15 hgq
          refine takeL_call (i := 6) rfl (by kernel_rfl) (fun K2 hK => ?_)
          go_simp
          refine (n_any sb 5 _ HM.out.src.1 (by omega)).mono ?_
          rintro e Z16 ⟨⟨v2, rfl, v20, v21, _⟩, hD⟩
          have v2b : 0 ≤ v2 ∧ v2 < 5 := by have := v21 (by omega); omega
          clear v20 v21
          replace HM := Lib.hid (HM.out.draw hD)
          replace HR := Lib.hid (row_chg HR.out (by have := HM.out.sbl; omega) hD.2)
          replace HQ := Lib.hid (row_chg HQ.out (by have := HM.out.sbl; have := HQL.out; omega) hD.2)
          clear hD
          go_wp2_with fail
          refine hK.out _ _ HR.out (fun hHeld2 => ?_)
          clear hK hHeld
          have hHeld := hHeld2
          clear hHeld2
          refine takeL_do (i := 7) (v := (.pointer (some ⟨gq, v2.toNat, none⟩))) rfl (by kernel_rfl) (by kernel_rfl) (by kernel_rfl) (by kernel_rfl) (fun _ _ _ h => h) (by rfl) ?_ (by assumption) ?_
          · intro w hSw
            skip
            go_simp
            try (intro hq; exfalso; omega)
          simp only [Act.put, List.setIfInBounds_toArray, List.set_cons_zero, List.set_cons_succ]
          refine takeL_call (i := 8) rfl (by kernel_rfl) (fun K2 hK => ?_)
          obtain ⟨V, hV⟩ : ∃ V : Int, Z16.cell? ⟨gq, v2.toNat, none⟩ = some (.int .i64 V) := by
            obtain ⟨⟨c0, c1, c2, c3, c4⟩, _⟩ := rowN5 HQ.out
            have h5 : v2.toNat = 0 ∨ v2.toNat = 1 ∨ v2.toNat = 2 ∨ v2.toNat = 3 ∨ v2.toNat = 4 := by omega
            rcases h5 with h | h | h | h | h <;> rw [h]
            · exact ⟨_, c0⟩
            · exact ⟨_, c1⟩
            · exact ⟨_, c2⟩
            · exact ⟨_, c3⟩
            · exact ⟨_, c4⟩
          go_simp
          refine hK.out _ _ HR.out (fun hHeld2 => ?_)
          clear hK hHeld
          have hHeld := hHeld2
          clear hHeld2
          clear hV HQ HQL
          refine takeL_do (i := 9) (v := (.agg #[.int .i64 i, .int .i64 q, .int .i64 V])) rfl (by kernel_rfl) (by kernel_rfl) (by kernel_rfl) (by kernel_rfl) (fun _ _ _ h => h) (by rfl) ?_ (by assumption) ?_
          · intro w hSw
            skip
            go_simp
          simp only [Act.put, List.setIfInBounds_toArray, List.set_cons_zero, List.set_cons_succ]
          refine takeL_call (i := 10) rfl (by kernel_rfl) (fun K2 hK => ?_)
          obtain ⟨Z19, hZ19⟩ : ∃ Z19, Z19 = Z16.alloc (.cells #[.int .i64 i, .int .i64 q, .int .i64 V] 61) := ⟨_, rfl⟩
          have hb : Below Z16.heap.size Z16 Z19 := by rw [hZ19]; exact nbel_alloc _ _
          obtain ⟨gs, hgs⟩ : ∃ gs, gs = Z16.heap.size := ⟨_, rfl⟩
          have HL : Hid (Z19.rowIs gs 61 3 (rowN [.int .i64 i, .int .i64 q, .int .i64 V])) := by show World.rowIs _ _ _ _ _; rw [hZ19, hgs]; exact rowN_alloc _ _ _
          replace HM := Lib.hid (HM.out.below hb)
          replace HR := Lib.hid (nrow_below HR.out hb)
          go_simp
          rw [← hZ19, ← hgs]
          refine hK.out _ _ HR.out (fun hHeld2 => ?_)
          clear hK hHeld
          have hHeld := hHeld2
          clear hHeld2
          clear hb hZ19 hgs
          refine takeL_call (i := 11) rfl (by kernel_rfl) (fun K2 hK => ?_)
          obtain ⟨zs, hown⟩ := HM.out.ro
          refine dyap rfl (.tmp 55) (.tmp 64) 30 rfl (w.heap.size) 61 j0 (.agg #[.int .i64 0, .int .i64 0, .int .i64 0]) 3 24 Tryz.underlying30 hj0 hj1 hj2 hj3 rfl (by decide) (.slice ra rk rc) rk _ rfl hown ⟨gs, 0, none⟩ 1 1 [.int .i64 i, .int .i64 q, .int .i64 V] rfl rfl ?_ ?_ (by unfold maxLen; omega) (by omega) (by have := HM.out.src.2.size; omega) ?_
          · obtain ⟨⟨c0, c1, c2⟩, _⟩ := rowN3 HL.out
            intro j u hj
            match j, hj with
            | 0, hj => simp at hj; subst hj; simpa [Addr.add] using c0
            | 1, hj => simp at hj; subst hj; simpa [Addr.add] using c1
            | 2, hj => simp at hj; subst hj; simpa [Addr.add] using c2
          · intro u hu
            simp at hu
            first | (subst hu; rfl) | (rcases hu with rfl | rfl | rfl <;> rfl)
          intro v' Z20 hown2 hgrow
          have hoz : OwZ 61 3 (w.heap.size) v' (rk + 1) Z20 := ⟨zs ++ ([(i : Int), (q : Int), (V : Int)] : List Int), by rw [List.map_append]; exact hown2⟩
          obtain ⟨a9, c9, rfl, _⟩ := hoz.shape
          have HOZ := Lib.hid hoz
          clear hoz
          replace HR := Lib.hid (row_grown HR.out HM.out.ro (by decide) hgrow)
          replace HM := Lib.hid (HM.out.rows hgrow HOZ.out)
          refine hK.out _ _ HR.out (fun hHeld2 => ?_)
          clear hK hHeld hown hown2 hgrow HL HOZ
          have hHeld := hHeld2
          clear hHeld2
          simp only [Act.put, List.setIfInBounds_toArray, List.set_cons_zero, List.set_cons_succ]
          refine takeL_do (i := 12) (v := (.pointer (some ⟨w.heap.size + 1, 0, none⟩))) rfl (by kernel_rfl) (by kernel_rfl) (by kernel_rfl) (by kernel_rfl) (fun _ _ _ h => h) (by rfl) ?_ (by assumption) ?_
          · intro w hSw
            skip
            go_simp
          simp only [Act.put, List.setIfInBounds_toArray, List.set_cons_zero, List.set_cons_succ]
          obtain ⟨⟨o0, o1, o2⟩, z0, z1, z2⟩ := rowN3 HR.out
          have l0 := HR.out.lt
          obtain ⟨WZ, hWZ⟩ : ∃ WZ, WZ = Z20.setCell ⟨w.heap.size + 1, 0, none⟩ (.slice a9 (rk + 1) c9) := ⟨_, rfl⟩
          have HPX : Hid (PDx w sb (rk + 1) 0 hn WZ) := by
            refine ⟨(.slice a9 (rk + 1) c9), (.slice sa 0 sc), (.slice ha hn hc), ?_, ?_⟩
            · rw [hWZ]; exact HM.out.set HR.out (by omega) _
            · rw [hWZ]; exact rowN_put HR.out 0 _ (by simp)
          have HWZ := Lib.hid hWZ
          clear hWZ
          refine takeL_last rfl (by kernel_rfl) (by kernel_rfl) (fun K2 hK => ?_)
          go_simp
          rw [← HWZ.out]
          refine hK.out _ _ ?_
          clear hK hHeld HWZ o0 o1 o2 z0 z1 z2 l0 HM HR
          go_wp2_with fail
          go_roundw
          case rel => exact ⟨i + 1, rk + 1, by go_num, by omega, by omega, by omega, by rw [← hhn]; exact HPX⟩
          case measure => simp [intOf]; omega
        · go_simp
          refine (n_any sb 5 _ HM.out.src.1 (by omega)).mono ?_
          rintro e Z17 ⟨⟨v2, rfl, v20, v21, _⟩, hD⟩
          have v2b : 0 ≤ v2 ∧ v2 < 5 := by have := v21 (by omega); omega
          clear v20 v21
          replace HM := Lib.hid (HM.out.draw hD)
          replace HR := Lib.hid (row_chg HR.out (by have := HM.out.sbl; omega) hD.2)
          clear hD
          go_wp2_with fail
          refine hK.out _ _ HR.out (fun hHeld2 => ?_)
          clear hK hHeld
          have hHeld := hHeld2
          clear hHeld2
          refine takeL_call (i := 4) rfl (by kernel_rfl) (fun K2 hK => ?_)
          obtain ⟨Z18, hZ18⟩ : ∃ Z18, Z18 = Z17.alloc (.cells #[.int .i64 1, .int .i64 1, .int .i64 1, .int .i64 0, .int .i64 2] 2) := ⟨_, rfl⟩
          have hb : Below Z17.heap.size Z17 Z18 := by rw [hZ18]; exact nbel_alloc _ _
          obtain ⟨gq, hgq⟩ : ∃ gq, gq = Z17.heap.size := ⟨_, rfl⟩
          have HQ : Hid (Z18.rowIs gq 2 5 (rowN [.int .i64 1, .int .i64 1, .int .i64 1, .int .i64 0, .int .i64 2])) := by show World.rowIs _ _ _ _ _; rw [hZ18, hgq]; exact rowN_alloc _ _ _
          have HQL : Hid (w.heap.size ≤ gq) := by show _ ≤ _; rw [hgq]; exact HM.out.src.2.size
          replace HM := Lib.hid (HM.out.below hb)
          replace HR := Lib.hid (nrow_below HR.out hb)
          go_simp
          rw [← hZ18, ← hgq]
          refine hK.out _ _ HR.out (fun hHeld2 => ?_)
          clear hK hHeld
          have hHeld := hHeld2
          clear hHeld2
          clear hb hZ18 hgq
          refine takeL_do (i := 7) (v := (.pointer (some ⟨gq, v2.toNat, none⟩))) rfl (by kernel_rfl) (by kernel_rfl) (by kernel_rfl) (by kernel_rfl) (fun _ _ _ h => h) (by rfl) ?_ (by assumption) ?_
          · intro w hSw
            skip
            go_simp
            try (intro hq; exfalso; omega)
          simp only [Act.put, List.setIfInBounds_toArray, List.set_cons_zero, List.set_cons_succ]
          refine takeL_call (i := 8) rfl (by kernel_rfl) (fun K2 hK => ?_)
          obtain ⟨V, hV⟩ : ∃ V : Int, Z18.cell? ⟨gq, v2.toNat, none⟩ = some (.int .i64 V) := by
            obtain ⟨⟨c0, c1, c2, c3, c4⟩, _⟩ := rowN5 HQ.out
            have h5 : v2.toNat = 0 ∨ v2.toNat = 1 ∨ v2.toNat = 2 ∨ v2.toNat = 3 ∨ v2.toNat = 4 := by omega
            rcases h5 with h | h | h | h | h <;> rw [h]
            · exact ⟨_, c0⟩
            · exact ⟨_, c1⟩
            · exact ⟨_, c2⟩
            · exact ⟨_, c3⟩
            · exact ⟨_, c4⟩
          go_simp
          refine hK.out _ _ HR.out (fun hHeld2 => ?_)
          clear hK hHeld
          have hHeld := hHeld2
          clear hHeld2
          clear hV HQ HQL
          refine takeL_do (i := 9) (v := (.agg #[.int .i64 i, .int .i64 q, .int .i64 V])) rfl (by kernel_rfl) (by kernel_rfl) (by kernel_rfl) (by kernel_rfl) (fun _ _ _ h => h) (by rfl) ?_ (by assumption) ?_
          · intro w hSw
            skip
            go_simp
          simp only [Act.put, List.setIfInBounds_toArray, List.set_cons_zero, List.set_cons_succ]
          refine takeL_call (i := 10) rfl (by kernel_rfl) (fun K2 hK => ?_)
          obtain ⟨Z21, hZ21⟩ : ∃ Z21, Z21 = Z18.alloc (.cells #[.int .i64 i, .int .i64 q, .int .i64 V] 61) := ⟨_, rfl⟩
          have hb : Below Z18.heap.size Z18 Z21 := by rw [hZ21]; exact nbel_alloc _ _
          obtain ⟨gs, hgs⟩ : ∃ gs, gs = Z18.heap.size := ⟨_, rfl⟩
          have HL : Hid (Z21.rowIs gs 61 3 (rowN [.int .i64 i, .int .i64 q, .int .i64 V])) := by show World.rowIs _ _ _ _ _; rw [hZ21, hgs]; exact rowN_alloc _ _ _
          replace HM := Lib.hid (HM.out.below hb)
          replace HR := Lib.hid (nrow_below HR.out hb)
          go_simp
          rw [← hZ21, ← hgs]
          refine hK.out _ _ HR.out (fun hHeld2 => ?_)
          clear hK hHeld
          have hHeld := hHeld2
          clear hHeld2
          clear hb hZ21 hgs
          refine takeL_call (i := 11) rfl (by kernel_rfl) (fun K2 hK => ?_)
          obtain ⟨zs, hown⟩ := HM.out.ro
          refine dyap rfl (.tmp 55) (.tmp 64) 30 rfl (w.heap.size) 61 j0 (.agg #[.int .i64 0, .int .i64 0, .int .i64 0]) 3 24 Tryz.underlying30 hj0 hj1 hj2 hj3 rfl (by decide) (.slice ra rk rc) rk _ rfl hown ⟨gs, 0, none⟩ 1 1 [.int .i64 i, .int .i64 q, .int .i64 V] rfl rfl ?_ ?_ (by unfold maxLen; omega) (by omega) (by have := HM.out.src.2.size; omega) ?_
          · obtain ⟨⟨c0, c1, c2⟩, _⟩ := rowN3 HL.out
            intro j u hj
            match j, hj with
            | 0, hj => simp at hj; subst hj; simpa [Addr.add] using c0
            | 1, hj => simp at hj; subst hj; simpa [Addr.add] using c1
            | 2, hj => simp at hj; subst hj; simpa [Addr.add] using c2
          · intro u hu
            simp at hu
            first | (subst hu; rfl) | (rcases hu with rfl | rfl | rfl <;> rfl)
          intro v' Z22 hown2 hgrow
          have hoz : OwZ 61 3 (w.heap.size) v' (rk + 1) Z22 := ⟨zs ++ ([(i : Int), (q : Int), (V : Int)] : List Int), by rw [List.map_append]; exact hown2⟩
          obtain ⟨a9, c9, rfl, _⟩ := hoz.shape
          have HOZ := Lib.hid hoz
          clear hoz
          replace HR := Lib.hid (row_grown HR.out HM.out.ro (by decide) hgrow)
          replace HM := Lib.hid (HM.out.rows hgrow HOZ.out)
          refine hK.out _ _ HR.out (fun hHeld2 => ?_)
          clear hK hHeld hown hown2 hgrow HL HOZ
          have hHeld := hHeld2
          clear hHeld2
          simp only [Act.put, List.setIfInBounds_toArray, List.set_cons_zero, List.set_cons_succ]
          refine takeL_do (i := 12) (v := (.pointer (some ⟨w.heap.size + 1, 0, none⟩))) rfl (by kernel_rfl) (by kernel_rfl) (by kernel_rfl) (by kernel_rfl) (fun _ _ _ h => h) (by rfl) ?_ (by assumption) ?_
          · intro w hSw
            skip
            go_simp
          simp only [Act.put, List.setIfInBounds_toArray, List.set_cons_zero, List.set_cons_succ]
          obtain ⟨⟨o0, o1, o2⟩, z0, z1, z2⟩ := rowN3 HR.out
          have l0 := HR.out.lt
          obtain ⟨WZ, hWZ⟩ : ∃ WZ, WZ = Z22.setCell ⟨w.heap.size + 1, 0, none⟩ (.slice a9 (rk + 1) c9) := ⟨_, rfl⟩
          have HPX : Hid (PDx w sb (rk + 1) 0 hn WZ) := by
            refine ⟨(.slice a9 (rk + 1) c9), (.slice sa 0 sc), (.slice ha hn hc), ?_, ?_⟩
            · rw [hWZ]; exact HM.out.set HR.out (by omega) _
            · rw [hWZ]; exact rowN_put HR.out 0 _ (by simp)
          have HWZ := Lib.hid hWZ
          clear hWZ
          refine takeL_last rfl (by kernel_rfl) (by kernel_rfl) (fun K2 hK => ?_)
          go_simp
          rw [← HWZ.out]
          refine hK.out _ _ ?_
          clear hK hHeld HWZ o0 o1 o2 z0 z1 z2 l0 HM HR
          go_wp2_with fail
          go_roundw
          case rel => exact ⟨i + 1, rk + 1, by go_num, by omega, by omega, by omega, by rw [← hhn]; exact HPX⟩
          case measure => simp [intOf]; omega
    · obtain rfl : i = N := by omega
      have hrn2 : rn ≤ 100 := by omega
      have hnb : 2 ≤ hn ∧ hn ≤ 41 := by omega
      obtain ⟨rv, sv, hv, hM, hR⟩ := hP.out
      rw [← hhn] at hM
      obtain ⟨ra, rc, rfl, _⟩ := hM.ro.shape
      obtain ⟨sa, sc, rfl, _⟩ := hM.so.shape
      obtain ⟨ha, hc, rfl, _⟩ := hM.ho.shape
      have HM := Lib.hid hM
      have HR := Lib.hid hR
      clear hP hM hR hhn
      go_wp2_with fail
      refine (drising_any sb i i (by omega) (by omega) _ HM.out.src.1).mono ?_
      rintro e w6 ⟨vs, rfl, zs, hzl, hown, hD, _⟩
      obtain ⟨sn, hsn⟩ : ∃ sn, sn = zs.length := ⟨_, rfl⟩
      have hsnb : sn ≤ 41 := by omega
      have HSO : Hid (OwZ 2 1 wr.heap.size vs sn w6) := ⟨zs, by rw [hsn]; exact hown⟩
      have HHB : Hid (∀ k, (Value.slice ha hn hc).ownBlock = some k → k < wr.heap.size) := fun k e => (HM.out.ho.lt e).2
      have HZ6 : Hid (w.heap.size ≤ wr.heap.size ∧ wr.heap.size ≤ w6.heap.size) := ⟨HM.out.src.2.size, hD.2.size⟩
      replace HM := Lib.hid (HM.out.draw hD)
      replace HR := Lib.hid (row_chg HR.out (by omega) hD.2)
      clear hown hD hzl hsn
      obtain ⟨sa2, sc2, rfl, _⟩ := HSO.out.shape
      obtain ⟨⟨y0, y1, y2⟩, f0, f1, f2⟩ := rowN3 HR.out
      have hl0 := HR.out.lt
      obtain ⟨W7, hW7⟩ : ∃ W7, W7 = w6.setCell ⟨w.heap.size + 1, 1, none⟩ (.slice sa2 sn sc2) := ⟨_, rfl⟩
      have HM7 : Hid (PM w sb (.slice ra rn rc) (.slice sa2 sn sc2) (.slice ha hn hc) rn sn hn W7) := by
        show PM _ _ _ _ _ _ _ _ _
        rw [hW7]; exact (HM.out.anew HZ6.out.1 HZ6.out.2 HSO.out HHB.out).set HR.out (by omega) _
      have HR7 : Hid (W7.rowIs (w.heap.size + 1) 32 3 (rowN [.slice ra rn rc, .slice sa2 sn sc2, .slice ha hn hc])) := by show World.rowIs _ _ _ _ _; rw [hW7]; exact rowN_put HR.out 1 _ (by simp)
      have HW7 := Lib.hid hW7
      obtain ⟨⟨t0, t1, t2⟩, g0, g1, g2⟩ := rowN3 HR7.out
      clear hW7
      rw [HW7.out] at t0 t1 t2
      go_upto_region 15 with fail
      rw [← HW7.out]
      have HP7 : Hid (PDx w sb rn sn hn W7) := ⟨_, _, _, HM7.out, HR7.out⟩
      clear HW7 t0 t1 t2 g0 g1 g2 y0 y1 y2 f0 f1 f2 hl0 HM HR HSO HHB HZ6
      go_cut [80] from 72 to 79 (fun bv V => ∃ bb : Bool, bv = .bool bb ∧ Hid (PDx w sb rn sn hn V))
      case first =>
        obtain ⟨⟨t0, t1, t2⟩, g0, g1, g2⟩ := rowN3 HR7.out
        by_cases h0 : sn = 0
        · have h0' : ((sn : Int) == 0) = true := by simp [h0]
          clear h0
          go_wp2_with fail
          refine (one_any sb 8 _ HP7.out.src (by omega)).mono ?_
          rintro e w8 ⟨⟨b3, rfl⟩, hD⟩
          have HP8 := Lib.hid (HP7.out.draw hD)
          clear hD
          go_wp2_with fail
          go_meet
          case rel => exact ⟨_, rfl, HP8⟩
        · have h0' : ((sn : Int) == 0) = false := by simp [h0]
          clear h0
          go_wp2_with fail
          go_meet
          case rel => exact ⟨_, rfl, HP7⟩
      case rest =>
      obtain ⟨b4, rfl, HP8⟩ := hcut
      obtain ⟨W8, hW8⟩ : ∃ W8, W8 = wc := ⟨_, rfl⟩
      rw [← hW8] at HP8 ⊢
      clear hW8 HM7 HR7 HP7
      go_upto_if 80 with fail
      go_cut [] from 81 to 84 (fun V => ∃ sn : Nat, sn ≤ 41 ∧ Hid (PDx w sb rn sn hn V))
      case first =>
        cases b4 with
        | false =>
          go_wp2_with fail
          go_meet
          exact ⟨sn, hsnb, HP8⟩
        | true =>
          go_wp2_with fail
          refine (n_any sb 2 _ HP8.out.src (by omega)).mono ?_
          rintro e w9 ⟨⟨x, rfl, x0, x1, _⟩, hD⟩
          replace HP8 := Lib.hid (HP8.out.draw hD)
          clear hD
          obtain ⟨rv, sv, hv, hM, hR⟩ := HP8.out
          obtain ⟨W10, hW10⟩ : ∃ W10, W10 = w9.alloc (.cells #[.int .i64 x] 2) := ⟨_, rfl⟩
          have hb : Below w9.heap.size w9 W10 := by rw [hW10]; exact nbel_alloc _ _
          have hM2 := hM.below hb
          have hR2 := nrow_below hR hb
          have hso : OwZ 2 1 w9.heap.size (.slice (some ⟨w9.heap.size, 0, none⟩) 1 1) 1 W10 := by rw [hW10]; exact OwZ.made 2 1 w9 [x] rfl (Nat.le_refl _)
          have hpx : PDx w sb rn 1 hn (W10.setCell ⟨w.heap.size + 1, 1, none⟩ (.slice (some ⟨w9.heap.size, 0, none⟩) 1 1)) := ⟨rv, _, hv, (hM2.anew hM.src.2.size hb.size hso (fun k e => (hM.ho.lt e).2)).set hR2 (by omega) _, rowN_put hR2 1 _ (by simp)⟩
          have HPX := Lib.hid hpx
          obtain ⟨⟨t0, t1, t2⟩, g0, g1, g2⟩ := rowN3 hR2
          have hl0 := hR2.lt
          rw [hW10] at HPX t0 t1 t2 g0 g1 g2 hl0
          clear hM2 hR2 hso hpx hb hM hR HP8 hW10
          go_wp2_with fail
          go_meet
          exact ⟨1, by omega, HPX⟩
      case rest =>
      clear HP8 hsnb
      obtain ⟨sn, hsnb, HP9⟩ := hcut
      obtain ⟨W9, hW9⟩ : ∃ W9, W9 = wc := ⟨_, rfl⟩
      rw [← hW9] at HP9 ⊢
      clear hW9
      go_wp2_with fail
      refine (one_any sb 20 _ HP9.out.src (by omega)).mono ?_
      rintro e w10 ⟨⟨b5, rfl⟩, hD⟩
      replace HP9 := Lib.hid (HP9.out.draw hD)
      clear hD
      cases b5 with
      | false =>
        obtain ⟨rv, sv, hv, hM, hR⟩ := HP9.out
        obtain ⟨ra, rc, rfl, _⟩ := hM.ro.shape
        obtain ⟨sa, sc, rfl, _⟩ := hM.so.shape
        obtain ⟨ha, hc, rfl, _⟩ := hM.ho.shape
        have HM := Lib.hid hM
        have HR := Lib.hid hR
        clear hM hR HP9
        obtain ⟨⟨y0, y1, y2⟩, _⟩ := rowN3 HR.out
        obtain ⟨⟨e0, e1, e2⟩, k0, k1, k2⟩ := rowN3 HM.out.res
        have hol := HM.out.res.lt
        go_wp2_with fail
        have zt := HM.out.told (by omega) (by omega) (by omega) rfl
        have zr := rowN_put (rowN_put (rowN_put HM.out.res 0 (.slice ra (rn) rc) (by simp)) 1 (.slice sa (sn) sc) (by simp)) 2 (.slice ha hn hc) (by simp)
        generalize (((w10.setCell ⟨w.heap.size, 0, none⟩ (.slice ra (rn) rc)).setCell ⟨w.heap.size, 1, none⟩ (.slice sa (sn) sc)).setCell ⟨w.heap.size, 2, none⟩ (.slice ha hn hc)) = V9 at zt zr ⊢
        obtain ⟨⟨c0, c1, c2⟩, _⟩ := rowN3 zr
        exact bodyPost_ret (v := .agg #[(.slice ra (rn) rc), (.slice sa (sn) sc), (.slice ha hn hc)]) (by simp only [results, Tryz.results44]; simp [go_sem, c0, c1, c2]) rfl zt
      | true =>
        go_wp2_with fail
        refine (n_any sb 4 _ HP9.out.src (by omega)).mono ?_
        rintro e w11 ⟨⟨x, rfl, xb0, xb1, _⟩, hD⟩
        replace HP9 := Lib.hid (HP9.out.draw hD)
        clear hD xb1
        obtain ⟨rv, sv, hv, hM, hR⟩ := HP9.out
        obtain ⟨ra, rc, rfl, _⟩ := hM.ro.shape
        obtain ⟨sa, sc, rfl, _⟩ := hM.so.shape
        obtain ⟨ha, hc, rfl, _⟩ := hM.ho.shape
        have HM := Lib.hid hM
        have HR := Lib.hid hR
        clear hM hR HP9
        obtain ⟨WW, hWW⟩ : ∃ WW, WW = w11 := ⟨_, rfl⟩
        rw [← hWW] at HM HR ⊢
        clear hWW
        by_cases hx0 : x = 0
        · have hx0' : (x == 0) = true := by simp [hx0]
          clear hx0
          go_wp2_with fail
          refine region_L (fun V => V.rowIs (w.heap.size + 1) 32 3 (rowN [(.slice ra (rn) rc), (.slice sa (sn) sc), (.slice ha hn hc)])) 9 (by kernel_rfl) (nrow_below HR.out (Below.refl _ _).drew) (fun hHeld => ?_)
          obtain ⟨Z, hZ⟩ : ∃ Z, Z = WW.drew := ⟨_, rfl⟩
          replace HM : Hid (PM w sb (.slice ra (rn) rc) (.slice sa (sn) sc) (.slice ha hn hc) rn sn hn Z) := by show PM _ _ _ _ _ _ _ _ _; rw [hZ]; exact HM.out.below (Below.refl _ _).drew
          replace HR : Hid (Z.rowIs (w.heap.size + 1) 32 3 (rowN [(.slice ra (rn) rc), (.slice sa (sn) sc), (.slice ha hn hc)])) := by show World.rowIs _ _ _ _ _; rw [hZ]; exact nrow_below HR.out (Below.refl _ _).drew
          rw [← hZ] at hHeld ⊢
          clear hZ
          refine takeL_do (i := 0) (v := (.pointer (some ⟨w.heap.size + 1, 1, none⟩))) rfl (by kernel_rfl) (by kernel_rfl) (by kernel_rfl) (by kernel_rfl) (fun _ _ _ h => h) (by rfl) ?_ (by assumption) ?_
          · intro w hSw
            skip
            go_simp
          simp only [Act.put, List.setIfInBounds_toArray, List.set_cons_zero, List.set_cons_succ]
          refine takeL_do (i := 1) (v := (.slice sa (sn) sc)) rfl (by kernel_rfl) (by kernel_rfl) (by kernel_rfl) (by kernel_rfl) (fun _ _ _ h => h) (by rfl) ?_ (by assumption) ?_
          · intro w hSw
            obtain ⟨⟨x0, x1, x2⟩, _⟩ := rowN3 hSw
            go_simp
          simp only [Act.put, List.setIfInBounds_toArray, List.set_cons_zero, List.set_cons_succ]
          refine takeL_do (i := 2) (v := (.pointer (some ⟨sb, 0, none⟩))) rfl (by kernel_rfl) (by kernel_rfl) (by kernel_rfl) (by kernel_rfl) (fun _ _ _ h => h) (by rfl) ?_ (by assumption) ?_
          · intro w hSw
            skip
            go_simp
          simp only [Act.put, List.setIfInBounds_toArray, List.set_cons_zero, List.set_cons_succ]
          refine takeL_do (i := 3) (v := (.int .i64 i)) rfl (by kernel_rfl) (by kernel_rfl) (by kernel_rfl) (by kernel_rfl) (fun _ _ _ h => h) (by rfl) ?_ (by assumption) ?_
          · intro w hSw
            skip
            go_simp
          simp only [Act.put, List.setIfInBounds_toArray, List.set_cons_zero, List.set_cons_succ]
          refine takeL_do (i := 4) (v := (.int .i64 ((i : Int) + 1))) rfl (by kernel_rfl) (by kernel_rfl) (by kernel_rfl) (by kernel_rfl) (fun _ _ _ h => h) (by rfl) ?_ (by assumption) ?_
          · intro w hSw
            skip
            go_simp
            try exact dywr (by omega) (by omega)
          simp only [Act.put, List.setIfInBounds_toArray, List.set_cons_zero, List.set_cons_succ]
          refine takeL_call (i := 5) rfl (by kernel_rfl) (fun K2 hK => ?_)
          go_simp
          refine (n_any sb ((i : Int) + 1) _ HM.out.src.1 (by omega)).mono ?_
          rintro e Z23 ⟨⟨v1, rfl, v10, v11, _⟩, hD⟩
          have v1b : 0 ≤ v1 := by omega
          clear v10 v11
          replace HM := Lib.hid (HM.out.draw hD)
          replace HR := Lib.hid (row_chg HR.out (by have := HM.out.sbl; omega) hD.2)
          clear hD
          go_wp2_with fail
          refine hK.out _ _ HR.out (fun hHeld2 => ?_)
          clear hK hHeld
          have hHeld := hHeld2
          clear hHeld2
          refine takeL_call (i := 6) rfl (by kernel_rfl) (fun K2 hK => ?_)
          obtain ⟨Z24, hZ24⟩ : ∃ Z24, Z24 = Z23.alloc (.cells #[.int .i64 v1] 2) := ⟨_, rfl⟩
          have hb : Below Z23.heap.size Z23 Z24 := by rw [hZ24]; exact nbel_alloc _ _
          obtain ⟨gs, hgs⟩ : ∃ gs, gs = Z23.heap.size := ⟨_, rfl⟩
          have HL : Hid (Z24.cell? ⟨gs, 0, none⟩ = some (.int .i64 v1)) := by
            show _ = _
            rw [hZ24, hgs]
            exact (rowN_alloc Z23 [.int .i64 v1] 2).cell (i := 0) (by simp)
          replace HM := Lib.hid (HM.out.below hb)
          replace HR := Lib.hid (nrow_below HR.out hb)
          go_simp
          rw [← hZ24, ← hgs]
          refine hK.out _ _ HR.out (fun hHeld2 => ?_)
          clear hK hHeld
          have hHeld := hHeld2
          clear hHeld2
          clear hb hZ24 hgs
          refine takeL_call (i := 7) rfl (by kernel_rfl) (fun K2 hK => ?_)
          obtain ⟨bs, hb1, hb0, ⟨zs, hown⟩, hb3⟩ := HM.out.sb2
          have HB1 := Lib.hid hb1
          have HB0 := Lib.hid hb0
          have HB3 := Lib.hid hb3
          refine dyap rfl (.tmp 105) (.tmp 110) 23 rfl (bs) 2 i0 (.int .i64 0) 1 8 Tryz.underlying23 hi0 hi1 hi2 hi3 rfl (by decide) (.slice sa (sn) sc) sn _ rfl hown ⟨gs, 0, none⟩ 1 1 [.int .i64 v1] rfl rfl ?_ ?_ (by unfold maxLen; omega) (by omega) HB0.out ?_
          · have c0 := HL.out
            intro j u hj
            match j, hj with
            | 0, hj => simp at hj; subst hj; simpa [Addr.add] using c0
          · intro u hu
            simp at hu
            first | (subst hu; rfl) | (rcases hu with rfl | rfl | rfl <;> rfl)
          intro v' Z25 hown2 hgrow
          have hoz : OwZ 2 1 (bs) v' (sn + 1) Z25 := ⟨zs ++ ([(v1 : Int)] : List Int), by rw [List.map_append]; exact hown2⟩
          obtain ⟨a9, c9, rfl, _⟩ := hoz.shape
          have HOZ := Lib.hid hoz
          clear hoz
          replace HR := Lib.hid (row_grown HR.out HM.out.so (by decide) hgrow)
          replace HM := Lib.hid (HM.out.sources hgrow HB1.out HB0.out HOZ.out HB3.out)
          refine hK.out _ _ HR.out (fun hHeld2 => ?_)
          clear hK hHeld hown hown2 hgrow HL HOZ HB1 HB0 HB3 hb1 hb0 hb3
          have hHeld := hHeld2
          clear hHeld2
          simp only [Act.put, List.setIfInBounds_toArray, List.set_cons_zero, List.set_cons_succ]
          refine takeL_do (i := 8) (v := (.pointer (some ⟨w.heap.size + 1, 1, none⟩))) rfl (by kernel_rfl) (by kernel_rfl) (by kernel_rfl) (by kernel_rfl) (fun _ _ _ h => h) (by rfl) ?_ (by assumption) ?_
          · intro w hSw
            skip
            go_simp
          simp only [Act.put, List.setIfInBounds_toArray, List.set_cons_zero, List.set_cons_succ]
          obtain ⟨⟨o0, o1, o2⟩, z0, z1, z2⟩ := rowN3 HR.out
          have l0 := HR.out.lt
          obtain ⟨WZ, hWZ⟩ : ∃ WZ, WZ = Z25.setCell ⟨w.heap.size + 1, 1, none⟩ (.slice a9 (sn + 1) c9) := ⟨_, rfl⟩
          have HPX : Hid (PDx w sb rn (sn + 1) hn WZ) := by
            refine ⟨(.slice ra (rn) rc), (.slice a9 (sn + 1) c9), (.slice ha hn hc), ?_, ?_⟩
            · rw [hWZ]; exact HM.out.set HR.out (by omega) _
            · rw [hWZ]; exact rowN_put HR.out 1 _ (by simp)
          have HWZ := Lib.hid hWZ
          clear hWZ
          refine takeL_last rfl (by kernel_rfl) (by kernel_rfl) (fun K2 hK => ?_)
          go_simp
          rw [← HWZ.out]
          refine hK.out _ _ ?_
          clear hK hHeld HWZ o0 o1 o2 z0 z1 z2 l0 HM HR
          obtain ⟨rv, sv, hv, hM, hR⟩ := HPX.out
          obtain ⟨ra, rc, rfl, _⟩ := hM.ro.shape
          obtain ⟨sa, sc, rfl, _⟩ := hM.so.shape
          obtain ⟨ha, hc, rfl, _⟩ := hM.ho.shape
          have HM := Lib.hid hM
          have HR := Lib.hid hR
          clear hM hR HPX
          obtain ⟨⟨y0, y1, y2⟩, _⟩ := rowN3 HR.out
          obtain ⟨⟨e0, e1, e2⟩, k0, k1, k2⟩ := rowN3 HM.out.res
          have hol := HM.out.res.lt
          go_wp2_with fail
          have zt := HM.out.told (by omega) (by omega) (by omega) rfl
          have zr := rowN_put (rowN_put (rowN_put HM.out.res 0 (.slice ra (rn) rc) (by simp)) 1 (.slice sa (sn + 1) sc) (by simp)) 2 (.slice ha hn hc) (by simp)
          generalize (((WZ.setCell ⟨w.heap.size, 0, none⟩ (.slice ra (rn) rc)).setCell ⟨w.heap.size, 1, none⟩ (.slice sa (sn + 1) sc)).setCell ⟨w.heap.size, 2, none⟩ (.slice ha hn hc)) = V9 at zt zr ⊢
          obtain ⟨⟨c0, c1, c2⟩, _⟩ := rowN3 zr
          exact bodyPost_ret (v := .agg #[(.slice ra (rn) rc), (.slice sa (sn + 1) sc), (.slice ha hn hc)]) (by simp only [results, Tryz.results44]; simp [go_sem, c0, c1, c2]) rfl zt
        have hx0' : (x == 0) = false := by simp [hx0]
        by_cases hx1 : x = 1
        · have hx1' : (x == 1) = true := by simp [hx1]
          clear hx0 hx1
          go_wp2_with fail
          refine region_L (fun V => V.rowIs (w.heap.size + 1) 32 3 (rowN [(.slice ra (rn) rc), (.slice sa (sn) sc), (.slice ha hn hc)])) 8 (by kernel_rfl) (nrow_below HR.out (Below.refl _ _).drew) (fun hHeld => ?_)
          obtain ⟨Z, hZ⟩ : ∃ Z, Z = WW.drew := ⟨_, rfl⟩
          replace HM : Hid (PM w sb (.slice ra (rn) rc) (.slice sa (sn) sc) (.slice ha hn hc) rn sn hn Z) := by show PM _ _ _ _ _ _ _ _ _; rw [hZ]; exact HM.out.below (Below.refl _ _).drew
          replace HR : Hid (Z.rowIs (w.heap.size + 1) 32 3 (rowN [(.slice ra (rn) rc), (.slice sa (sn) sc), (.slice ha hn hc)])) := by show World.rowIs _ _ _ _ _; rw [hZ]; exact nrow_below HR.out (Below.refl _ _).drew
          rw [← hZ] at hHeld ⊢
          clear hZ
          obtain ⟨hbk, ehb⟩ : ∃ hbk, ha = some ⟨hbk, 0, none⟩ := by
            obtain ⟨a, c, f, e, h1, h2, h3⟩ := HM.out.ho.at_
            injection e with e1 e2 e3
            subst e1
            rcases h1 with h1 | ⟨b, e, _⟩
            · omega
            · exact ⟨b, e⟩
          have hn0 : (0 : Int) < (hn : Int) := by omega
          refine takeL_do (i := 0) (v := (.pointer (some ⟨w.heap.size + 1, 2, none⟩))) rfl (by kernel_rfl) (by kernel_rfl) (by kernel_rfl) (by kernel_rfl) (fun _ _ _ h => h) (by rfl) ?_ (by assumption) ?_
          · intro w hSw
            skip
            go_simp
          simp only [Act.put, List.setIfInBounds_toArray, List.set_cons_zero, List.set_cons_succ]
          refine takeL_do (i := 1) (v := (.slice ha hn hc)) rfl (by kernel_rfl) (by kernel_rfl) (by kernel_rfl) (by kernel_rfl) (fun _ _ _ h => h) (by rfl) ?_ (by assumption) ?_
          · intro w hSw
            obtain ⟨⟨x0, x1, x2⟩, _⟩ := rowN3 hSw
            go_simp
          simp only [Act.put, List.setIfInBounds_toArray, List.set_cons_zero, List.set_cons_succ]
          refine takeL_do (i := 3) (v := (.pointer (some ⟨sb, 0, none⟩))) rfl (by kernel_rfl) (by kernel_rfl) (by kernel_rfl) (by kernel_rfl) (fun _ _ _ h => h) (by rfl) ?_ (by assumption) ?_
          · intro w hSw
            skip
            go_simp
          simp only [Act.put, List.setIfInBounds_toArray, List.set_cons_zero, List.set_cons_succ]
          refine L_ready (rs := [2, 4]) (by kernel_rfl) (by simp) (AllL.cons (i := 2) rfl (fun K2 hK => ?_) (AllL.cons (i := 4) rfl (fun K2 hK => ?_) AllL.nil))
          · obtain ⟨Z26, hZ26⟩ : ∃ Z26, Z26 = Z.alloc (.cells #[.int .i64 (-1), .int .i64 1000000, .int .i64 1000001] 2) := ⟨_, rfl⟩
            have hb : Below Z.heap.size Z Z26 := by rw [hZ26]; exact nbel_alloc _ _
            obtain ⟨gq, hgq⟩ : ∃ gq, gq = Z.heap.size := ⟨_, rfl⟩
            have HQ : Hid (Z26.rowIs gq 2 3 (rowN [.int .i64 (-1), .int .i64 1000000, .int .i64 1000001])) := by show World.rowIs _ _ _ _ _; rw [hZ26, hgq]; exact rowN_alloc _ _ _
            have HQL : Hid (w.heap.size ≤ gq) := by show _ ≤ _; rw [hgq]; exact HM.out.src.2.size
            replace HM := Lib.hid (HM.out.below hb)
            replace HR := Lib.hid (nrow_below HR.out hb)
            go_simp
            rw [← hZ26, ← hgq]
            refine hK.out _ _ HR.out (fun hHeld2 => ?_)
            clear hK hHeld
            have hHeld := hHeld2
            clear hHeld2
            clear hb hZ26 hgq
            refine takeL_call (i := 4) rfl (by kernel_rfl) (fun K2 hK => ?_)
            go_simp
            refine (n_any sb 3 _ HM.out.src.1 (by omega)).mono ?_
            rintro e Z27 ⟨⟨v2, rfl, v20, v21, _⟩, hD⟩
            have v2b : 0 ≤ v2 ∧ v2 < 3 := by have := v21 (by omega); omega
            clear v20 v21
            replace HM := Lib.hid (HM.out.draw hD)
            replace HR := Lib.hid (row_chg HR.out (by have := HM.out.sbl; omega) hD.2)
            replace HQ := Lib.hid (row_chg HQ.out (by have := HM.out.sbl; have := HQL.out; omega) hD.2)
            clear hD
            go_wp2_with fail
            refine hK.out _ _ HR.out (fun hHeld2 => ?_)
            clear hK hHeld
            have hHeld := hHeld2
            clear hHeld2
            refine takeL_do (i := 5) (v := (.pointer (some ⟨gq, v2.toNat, none⟩))) rfl (by kernel_rfl) (by kernel_rfl) (by kernel_rfl) (by kernel_rfl) (fun _ _ _ h => h) (by rfl) ?_ (by assumption) ?_
            · intro w hSw
              skip
              go_simp
              try (intro hq; exfalso; omega)
            simp only [Act.put, List.setIfInBounds_toArray, List.set_cons_zero, List.set_cons_succ]
            refine takeL_call (i := 6) rfl (by kernel_rfl) (fun K2 hK => ?_)
            obtain ⟨V, hV⟩ : ∃ V : Int, Z27.cell? ⟨gq, v2.toNat, none⟩ = some (.int .i64 V) := by
              obtain ⟨⟨c0, c1, c2⟩, _⟩ := rowN3 HQ.out
              have h5 : v2.toNat = 0 ∨ v2.toNat = 1 ∨ v2.toNat = 2 := by omega
              rcases h5 with h | h | h <;> rw [h]
              · exact ⟨_, c0⟩
              · exact ⟨_, c1⟩
              · exact ⟨_, c2⟩
            go_simp
            refine hK.out _ _ HR.out (fun hHeld2 => ?_)
            clear hK hHeld
            have hHeld := hHeld2
            clear hHeld2
            clear hV HQ HQL
            refine takeL_do (i := 7) (v := (.pointer (some ⟨hbk, 0, none⟩))) rfl (by kernel_rfl) (by kernel_rfl) (by kernel_rfl) (by kernel_rfl) (fun _ _ _ h => h) (by rfl) ?_ (by assumption) ?_
            · intro w hSw
              subst ehb
              go_simp
              try (intro hq; exfalso; omega)
            simp only [Act.put, List.setIfInBounds_toArray, List.set_cons_zero, List.set_cons_succ]
            obtain ⟨hcl, hfz⟩ : (∃ u, Z27.cell? ⟨hbk, 0, none⟩ = some u) ∧ Z27.frozen? ⟨hbk, 0, none⟩ = false := OwZ.head HM.out.ho (by omega) ehb
            obtain ⟨u0, hu0⟩ := hcl
            have l0 : hbk < Z27.heap.size := World.block_lt_of_cell? _ _ hu0
            obtain ⟨WZ, hWZ⟩ : ∃ WZ, WZ = Z27.setCell ⟨hbk, 0, none⟩ (.int .i64 V) := ⟨_, rfl⟩
            have HPX : Hid (PDx w sb rn sn hn WZ) := by
              refine ⟨(.slice ra (rn) rc), (.slice sa (sn) sc), (.slice ha hn hc), ?_, ?_⟩
              · rw [hWZ]; exact HM.out.home0 (by omega) ehb V
              · rw [hWZ]; exact HR.out.of_block (Below.heap_setCell _ _ _ _ (fun e => HM.out.ho.ne_row HR.out (by decide) (by rw [ehb]; rfl) e.symm))
            have HWZ := Lib.hid hWZ
            clear hWZ
            refine takeL_last rfl (by kernel_rfl) (by kernel_rfl) (fun K2 hK => ?_)
            go_simp
            rw [← HWZ.out]
            refine hK.out _ _ ?_
            clear hK hHeld HWZ hu0 hfz l0 HM HR ehb
            obtain ⟨rv, sv, hv, hM, hR⟩ := HPX.out
            obtain ⟨ra, rc, rfl, _⟩ := hM.ro.shape
            obtain ⟨sa, sc, rfl, _⟩ := hM.so.shape
            obtain ⟨ha, hc, rfl, _⟩ := hM.ho.shape
            have HM := Lib.hid hM
            have HR := Lib.hid hR
            clear hM hR HPX
            obtain ⟨⟨y0, y1, y2⟩, _⟩ := rowN3 HR.out
            obtain ⟨⟨e0, e1, e2⟩, k0, k1, k2⟩ := rowN3 HM.out.res
            have hol := HM.out.res.lt
            go_wp2_with fail
            have zt := HM.out.told (by omega) (by omega) (by omega) rfl
            have zr := rowN_put (rowN_put (rowN_put HM.out.res 0 (.slice ra (rn) rc) (by simp)) 1 (.slice sa (sn) sc) (by simp)) 2 (.slice ha hn hc) (by simp)
            generalize (((WZ.setCell ⟨w.heap.size, 0, none⟩ (.slice ra (rn) rc)).setCell ⟨w.heap.size, 1, none⟩ (.slice sa (sn) sc)).setCell ⟨w.heap.size, 2, none⟩ (.slice ha hn hc)) = V9 at zt zr ⊢
            obtain ⟨⟨c0, c1, c2⟩, _⟩ := rowN3 zr
            exact bodyPost_ret (v := .agg #[(.slice ra (rn) rc), (.slice sa (sn) sc), (.slice ha hn hc)]) (by simp only [results, Tryz.results44]; simp [go_sem, c0, c1, c2]) rfl zt
          · go_simp
            refine (n_any sb 3 _ HM.out.src.1 (by omega)).mono ?_
            rintro e Z28 ⟨⟨v2, rfl, v20, v21, _⟩, hD⟩
            have v2b : 0 ≤ v2 ∧ v2 < 3 := by have := v21 (by omega); omega
            clear v20 v21
            replace HM := Lib.hid (HM.out.draw hD)
            replace HR := Lib.hid (row_chg HR.out (by have := HM.out.sbl; omega) hD.2)
            clear hD
            go_wp2_with fail
            refine hK.out _ _ HR.out (fun hHeld2 => ?_)
            clear hK hHeld
            have hHeld := hHeld2
            clear hHeld2
            refine takeL_call (i := 2) rfl (by kernel_rfl) (fun K2 hK => ?_)
            obtain ⟨Z29, hZ29⟩ : ∃ Z29, Z29 = Z28.alloc (.cells #[.int .i64 (-1), .int .i64 1000000, .int .i64 1000001] 2) := ⟨_, rfl⟩
            have hb : Below Z28.heap.size Z28 Z29 := by rw [hZ29]; exact nbel_alloc _ _
            obtain ⟨gq, hgq⟩ : ∃ gq, gq = Z28.heap.size := ⟨_, rfl⟩
            have HQ : Hid (Z29.rowIs gq 2 3 (rowN [.int .i64 (-1), .int .i64 1000000, .int .i64 1000001])) := by show World.rowIs _ _ _ _ _; rw [hZ29, hgq]; exact rowN_alloc _ _ _
            have HQL : Hid (w.heap.size ≤ gq) := by show _ ≤ _; rw [hgq]; exact HM.out.src.2.size
            replace HM := Lib.hid (HM.out.below hb)
            replace HR := Lib.hid (nrow_below HR.out hb)
            go_simp
            rw [← hZ29, ← hgq]
            refine hK.out _ _ HR.out (fun hHeld2 => ?_)
            clear hK hHeld
            have hHeld := hHeld2
            clear hHeld2
            clear hb hZ29 hgq
            refine takeL_do (i := 5) (v := (.pointer (some ⟨gq, v2.toNat, none⟩))) rfl (by kernel_rfl) (by kernel_rfl) (by kernel_rfl) (by kernel_rfl) (fun _ _ _ h => h) (by rfl) ?_ (by assumption) ?_
            · intro w hSw
              skip
              go_simp
              try (intro hq; exfalso; omega)
            simp only [Act.put, List.setIfInBounds_toArray, List.set_cons_zero, List.set_cons_succ]
            refine takeL_call (i := 6) rfl (by kernel_rfl) (fun K2 hK => ?_)
            obtain ⟨V, hV⟩ : ∃ V : Int, Z29.cell? ⟨gq, v2.toNat, none⟩ = some (.int .i64 V) := by
              obtain ⟨⟨c0, c1, c2⟩, _⟩ := rowN3 HQ.out
              have h5 : v2.toNat = 0 ∨ v2.toNat = 1 ∨ v2.toNat = 2 := by omega
              rcases h5 with h | h | h <;> rw [h]
              · exact ⟨_, c0⟩
              · exact ⟨_, c1⟩
              · exact ⟨_, c2⟩
            go_simp
            refine hK.out _ _ HR.out (fun hHeld2 => ?_)
            clear hK hHeld
            have hHeld := hHeld2
            clear hHeld2
            clear hV HQ HQL
            refine takeL_do (i := 7) (v := (.pointer (some ⟨hbk, 0, none⟩))) rfl (by kernel_rfl) (by kernel_rfl) (by kernel_rfl) (by kernel_rfl) (fun _ _ _ h => h) (by rfl) ?_ (by assumption) ?_
            · intro w hSw
              subst ehb
              go_simp
              try (intro hq; exfalso; omega)
            simp only [Act.put, List.setIfInBounds_toArray, List.set_cons_zero, List.set_cons_succ]
            obtain ⟨hcl, hfz⟩ : (∃ u, Z29.cell? ⟨hbk, 0, none⟩ = some u) ∧ Z29.frozen? ⟨hbk, 0, none⟩ = false := OwZ.head HM.out.ho (by omega) ehb
            obtain ⟨u0, hu0⟩ := hcl
            have l0 : hbk < Z29.heap.size := World.block_lt_of_cell? _ _ hu0
            obtain ⟨WZ, hWZ⟩ : ∃ WZ, WZ = Z29.setCell ⟨hbk, 0, none⟩ (.int .i64 V) := ⟨_, rfl⟩
            have HPX : Hid (PDx w sb rn sn hn WZ) := by
              refine ⟨(.slice ra (rn) rc), (.slice sa (sn) sc), (.slice ha hn hc), ?_, ?_⟩
              · rw [hWZ]; exact HM.out.home0 (by omega) ehb V
              · rw [hWZ]; exact HR.out.of_block (Below.heap_setCell _ _ _ _ (fun e => HM.out.ho.ne_row HR.out (by decide) (by rw [ehb]; rfl) e.symm))
            have HWZ := Lib.hid hWZ
            clear hWZ
            refine takeL_last rfl (by kernel_rfl) (by kernel_rfl) (fun K2 hK => ?_)
            go_simp
            rw [← HWZ.out]
            refine hK.out _ _ ?_
            clear hK hHeld HWZ hu0 hfz l0 HM HR ehb
            obtain ⟨rv, sv, hv, hM, hR⟩ := HPX.out
            obtain ⟨ra, rc, rfl, _⟩ := hM.ro.shape
            obtain ⟨sa, sc, rfl, _⟩ := hM.so.shape
            obtain ⟨ha, hc, rfl, _⟩ := hM.ho.shape
            have HM := Lib.hid hM
            have HR := Lib.hid hR
            clear hM hR HPX
            obtain ⟨⟨y0, y1, y2⟩, _⟩ := rowN3 HR.out
            obtain ⟨⟨e0, e1, e2⟩, k0, k1, k2⟩ := rowN3 HM.out.res
            have hol := HM.out.res.lt
            go_wp2_with fail
            have zt := HM.out.told (by omega) (by omega) (by omega) rfl
            have zr := rowN_put (rowN_put (rowN_put HM.out.res 0 (.slice ra (rn) rc) (by simp)) 1 (.slice sa (sn) sc) (by simp)) 2 (.slice ha hn hc) (by simp)
            generalize (((WZ.setCell ⟨w.heap.size, 0, none⟩ (.slice ra (rn) rc)).setCell ⟨w.heap.size, 1, none⟩ (.slice sa (sn) sc)).setCell ⟨w.heap.size, 2, none⟩ (.slice ha hn hc)) = V9 at zt zr ⊢
            obtain ⟨⟨c0, c1, c2⟩, _⟩ := rowN3 zr
            exact bodyPost_ret (v := .agg #[(.slice ra (rn) rc), (.slice sa (sn) sc), (.slice ha hn hc)]) (by simp only [results, Tryz.results44]; simp [go_sem, c0, c1, c2]) rfl zt
        have hx1' : (x == 1) = false := by simp [hx1]
        by_cases hx2 : x = 2
        · have hx2' : (x == 2) = true := by simp [hx2]
          clear hx0 hx1 hx2
          go_wp2_with fail
          refine region_L (fun V => V.rowIs (w.heap.size + 1) 32 3 (rowN [(.slice ra (rn) rc), (.slice sa (sn) sc), (.slice ha hn hc)])) 16 (by kernel_rfl) (nrow_below HR.out (Below.refl _ _).drew) (fun hHeld => ?_)
          obtain ⟨Z, hZ⟩ : ∃ Z, Z = WW.drew := ⟨_, rfl⟩
          replace HM : Hid (PM w sb (.slice ra (rn) rc) (.slice sa (sn) sc) (.slice ha hn hc) rn sn hn Z) := by show PM _ _ _ _ _ _ _ _ _; rw [hZ]; exact HM.out.below (Below.refl _ _).drew
          replace HR : Hid (Z.rowIs (w.heap.size + 1) 32 3 (rowN [(.slice ra (rn) rc), (.slice sa (sn) sc), (.slice ha hn hc)])) := by show World.rowIs _ _ _ _ _; rw [hZ]; exact nrow_below HR.out (Below.refl _ _).drew
          rw [← hZ] at hHeld ⊢
          clear hZ
          refine takeL_do (i := 0) (v := (.pointer (some ⟨w.heap.size + 1, 0, none⟩))) rfl (by kernel_rfl) (by kernel_rfl) (by kernel_rfl) (by kernel_rfl) (fun _ _ _ h => h) (by rfl) ?_ (by assumption) ?_
          · intro w hSw
            skip
            go_simp
          simp only [Act.put, List.setIfInBounds_toArray, List.set_cons_zero, List.set_cons_succ]
          refine takeL_do (i := 1) (v := (.slice ra (rn) rc)) rfl (by kernel_rfl) (by kernel_rfl) (by kernel_rfl) (by kernel_rfl) (fun _ _ _ h => h) (by rfl) ?_ (by assumption) ?_
          · intro w hSw
            obtain ⟨⟨x0, x1, x2⟩, _⟩ := rowN3 hSw
            go_simp
          simp only [Act.put, List.setIfInBounds_toArray, List.set_cons_zero, List.set_cons_succ]
          refine takeL_do (i := 2) (v := (.pointer (some ⟨sb, 0, none⟩))) rfl (by kernel_rfl) (by kernel_rfl) (by kernel_rfl) (by kernel_rfl) (fun _ _ _ h => h) (by rfl) ?_ (by assumption) ?_
          · intro w hSw
            skip
            go_simp
          simp only [Act.put, List.setIfInBounds_toArray, List.set_cons_zero, List.set_cons_succ]
          refine takeL_do (i := 3) (v := (.int .i64 i)) rfl (by kernel_rfl) (by kernel_rfl) (by kernel_rfl) (by kernel_rfl) (fun _ _ _ h => h) (by rfl) ?_ (by assumption) ?_
          · intro w hSw
            skip
            go_simp
          simp only [Act.put, List.setIfInBounds_toArray, List.set_cons_zero, List.set_cons_succ]
          refine takeL_do (i := 4) (v := (.int .i64 ((i : Int) + 1))) rfl (by kernel_rfl) (by kernel_rfl) (by kernel_rfl) (by kernel_rfl) (fun _ _ _ h => h) (by rfl) ?_ (by assumption) ?_
          · intro w hSw
            skip
            go_simp
            try exact dywr (by omega) (by omega)
          simp only [Act.put, List.setIfInBounds_toArray, List.set_cons_zero, List.set_cons_succ]
          refine takeL_do (i := 6) (v := (.pointer (some ⟨sb, 0, none⟩))) rfl (by kernel_rfl) (by kernel_rfl) (by kernel_rfl) (by kernel_rfl) (fun _ _ _ h => h) (by rfl) ?_ (by assumption) ?_
          · intro w hSw
            skip
            go_simp
          simp only [Act.put, List.setIfInBounds_toArray, List.set_cons_zero, List.set_cons_succ]
          refine takeL_do (i := 7) (v := (.int .i64 i)) rfl (by kernel_rfl) (by kernel_rfl) (by kernel_rfl) (by kernel_rfl) (fun _ _ _ h => h) (by rfl) ?_ (by assumption) ?_
          · intro w hSw
            skip
            go_simp
          simp only [Act.put, List.setIfInBounds_toArray, List.set_cons_zero, List.set_cons_succ]
          refine takeL_do (i := 9) (v := (.pointer (some ⟨sb, 0, none⟩))) rfl (by kernel_rfl) (by kernel_rfl) (by kernel_rfl) (by kernel_rfl) (fun _ _ _ h => h) (by rfl) ?_ (by assumption) ?_
          · intro w hSw
            skip
            go_simp
          simp only [Act.put, List.setIfInBounds_toArray, List.set_cons_zero, List.set_cons_succ]
          refine takeL_call (i := 5) rfl (by kernel_rfl) (fun K2 hK => ?_)
          go_simp
          refine (n_any sb ((i : Int) + 1) _ HM.out.src.1 (by omega)).mono ?_
          rintro e Z30 ⟨⟨v1, rfl, v10, v11, _⟩, hD⟩
          have v1b : 0 ≤ v1 := by omega
          clear v10 v11
          replace HM := Lib.hid (HM.out.draw hD)
          replace HR := Lib.hid (row_chg HR.out (by have := HM.out.sbl; omega) hD.2)
          clear hD
          go_wp2_with fail
          refine hK.out _ _ HR.out (fun hHeld2 => ?_)
          clear hK hHeld
          have hHeld := hHeld2
          clear hHeld2
          refine takeL_call (i := 8) rfl (by kernel_rfl) (fun K2 hK => ?_)
          go_simp
          refine (n_any sb i _ HM.out.src.1 (by omega)).mono ?_
          rintro e Z31 ⟨⟨v2, rfl, v20, v21, _⟩, hD⟩
          have v2b : 0 ≤ v2 := by omega
          clear v20 v21
          replace HM := Lib.hid (HM.out.draw hD)
          replace HR := Lib.hid (row_chg HR.out (by have := HM.out.sbl; omega) hD.2)
          clear hD
          go_wp2_with fail
          refine hK.out _ _ HR.out (fun hHeld2 => ?_)
          clear hK hHeld
          have hHeld := hHeld2
          clear hHeld2
          refine takeL_call (i := 10) rfl (by kernel_rfl) (fun K2 hK => ?_)
          go_simp
          refine (n_any sb 5 _ HM.out.src.1 (by omega)).mono ?_
          rintro e Z32 ⟨⟨v3, rfl, v30, v31, _⟩, hD⟩
          have v3b : 0 ≤ v3 ∧ v3 < 5 := by have := v31 (by omega); omega
          clear v30 v31
          replace HM := Lib.hid (HM.out.draw hD)
          replace HR := Lib.hid (row_chg HR.out (by have := HM.out.sbl; omega) hD.2)
          clear hD
          go_wp2_with fail
          refine hK.out _ _ HR.out (fun hHeld2 => ?_)
          clear hK hHeld
          have hHeld := hHeld2
          clear hHeld2
          refine takeL_do (i := 11) (v := (.int .i64 (v3 - 1))) rfl (by kernel_rfl) (by kernel_rfl) (by kernel_rfl) (by kernel_rfl) (fun _ _ _ h => h) (by rfl) ?_ (by assumption) ?_
          · intro w hSw
            skip
            go_simp
            try exact dywr (by omega) (by omega)
          simp only [Act.put, List.setIfInBounds_toArray, List.set_cons_zero, List.set_cons_succ]
          refine takeL_do (i := 12) (v := (.agg #[.int .i64 v1, .int .i64 v2, .int .i64 (v3 - 1)])) rfl (by kernel_rfl) (by kernel_rfl) (by kernel_rfl) (by kernel_rfl) (fun _ _ _ h => h) (by rfl) ?_ (by assumption) ?_
          · intro w hSw
            skip
            go_simp
          simp only [Act.put, List.setIfInBounds_toArray, List.set_cons_zero, List.set_cons_succ]
          refine takeL_call (i := 13) rfl (by kernel_rfl) (fun K2 hK => ?_)
          obtain ⟨Z33, hZ33⟩ : ∃ Z33, Z33 = Z32.alloc (.cells #[.int .i64 v1, .int .i64 v2, .int .i64 (v3 - 1)] 61) := ⟨_, rfl⟩
          have hb : Below Z32.heap.size Z32 Z33 := by rw [hZ33]; exact nbel_alloc _ _
          obtain ⟨gs, hgs⟩ : ∃ gs, gs = Z32.heap.size := ⟨_, rfl⟩
          have HL : Hid (Z33.rowIs gs 61 3 (rowN [.int .i64 v1, .int .i64 v2, .int .i64 (v3 - 1)])) := by show World.rowIs _ _ _ _ _; rw [hZ33, hgs]; exact rowN_alloc _ _ _
          replace HM := Lib.hid (HM.out.below hb)
          replace HR := Lib.hid (nrow_below HR.out hb)
          go_simp
          rw [← hZ33, ← hgs]
          refine hK.out _ _ HR.out (fun hHeld2 => ?_)
          clear hK hHeld
          have hHeld := hHeld2
          clear hHeld2
          clear hb hZ33 hgs
          refine takeL_call (i := 14) rfl (by kernel_rfl) (fun K2 hK => ?_)
          obtain ⟨zs, hown⟩ := HM.out.ro
          refine dyap rfl (.tmp 126) (.tmp 138) 30 rfl (w.heap.size) 61 j0 (.agg #[.int .i64 0, .int .i64 0, .int .i64 0]) 3 24 Tryz.underlying30 hj0 hj1 hj2 hj3 rfl (by decide) (.slice ra (rn) rc) rn _ rfl hown ⟨gs, 0, none⟩ 1 1 [.int .i64 v1, .int .i64 v2, .int .i64 (v3 - 1)] rfl rfl ?_ ?_ (by unfold maxLen; omega) (by omega) (by have := HM.out.src.2.size; omega) ?_
          · obtain ⟨⟨c0, c1, c2⟩, _⟩ := rowN3 HL.out
            intro j u hj
            match j, hj with
            | 0, hj => simp at hj; subst hj; simpa [Addr.add] using c0
            | 1, hj => simp at hj; subst hj; simpa [Addr.add] using c1
            | 2, hj => simp at hj; subst hj; simpa [Addr.add] using c2
          · intro u hu
            simp at hu
            first | (subst hu; rfl) | (rcases hu with rfl | rfl | rfl <;> rfl)
          intro v' Z34 hown2 hgrow
          have hoz : OwZ 61 3 (w.heap.size) v' (rn + 1) Z34 := ⟨zs ++ ([(v1 : Int), (v2 : Int), ((v3 - 1) : Int)] : List Int), by rw [List.map_append]; exact hown2⟩
          obtain ⟨a9, c9, rfl, _⟩ := hoz.shape
          have HOZ := Lib.hid hoz
          clear hoz
          replace HR := Lib.hid (row_grown HR.out HM.out.ro (by decide) hgrow)
          replace HM := Lib.hid (HM.out.rows hgrow HOZ.out)
          refine hK.out _ _ HR.out (fun hHeld2 => ?_)
          clear hK hHeld hown hown2 hgrow HL HOZ
          have hHeld := hHeld2
          clear hHeld2
          simp only [Act.put, List.setIfInBounds_toArray, List.set_cons_zero, List.set_cons_succ]
          refine takeL_do (i := 15) (v := (.pointer (some ⟨w.heap.size + 1, 0, none⟩))) rfl (by kernel_rfl) (by kernel_rfl) (by kernel_rfl) (by kernel_rfl) (fun _ _ _ h => h) (by rfl) ?_ (by assumption) ?_
          · intro w hSw
            skip
            go_simp
          simp only [Act.put, List.setIfInBounds_toArray, List.set_cons_zero, List.set_cons_succ]
          obtain ⟨⟨o0, o1, o2⟩, z0, z1, z2⟩ := rowN3 HR.out
          have l0 := HR.out.lt
          obtain ⟨WZ, hWZ⟩ : ∃ WZ, WZ = Z34.setCell ⟨w.heap.size + 1, 0, none⟩ (.slice a9 (rn + 1) c9) := ⟨_, rfl⟩
          have HPX : Hid (PDx w sb (rn + 1) sn hn WZ) := by
            refine ⟨(.slice a9 (rn + 1) c9), (.slice sa (sn) sc), (.slice ha hn hc), ?_, ?_⟩
            · rw [hWZ]; exact HM.out.set HR.out (by omega) _
            · rw [hWZ]; exact rowN_put HR.out 0 _ (by simp)
          have HWZ := Lib.hid hWZ
          clear hWZ
          refine takeL_last rfl (by kernel_rfl) (by kernel_rfl) (fun K2 hK => ?_)
          go_simp
          rw [← HWZ.out]
          refine hK.out _ _ ?_
          clear hK hHeld HWZ o0 o1 o2 z0 z1 z2 l0 HM HR
          obtain ⟨rv, sv, hv, hM, hR⟩ := HPX.out
          obtain ⟨ra, rc, rfl, _⟩ := hM.ro.shape
          obtain ⟨sa, sc, rfl, _⟩ := hM.so.shape
          obtain ⟨ha, hc, rfl, _⟩ := hM.ho.shape
          have HM := Lib.hid hM
          have HR := Lib.hid hR
          clear hM hR HPX
          obtain ⟨⟨y0, y1, y2⟩, _⟩ := rowN3 HR.out
          obtain ⟨⟨e0, e1, e2⟩, k0, k1, k2⟩ := rowN3 HM.out.res
          have hol := HM.out.res.lt
          go_wp2_with fail
          have zt := HM.out.told (by omega) (by omega) (by omega) rfl
          have zr := rowN_put (rowN_put (rowN_put HM.out.res 0 (.slice ra (rn + 1) rc) (by simp)) 1 (.slice sa (sn) sc) (by simp)) 2 (.slice ha hn hc) (by simp)
          generalize (((WZ.setCell ⟨w.heap.size, 0, none⟩ (.slice ra (rn + 1) rc)).setCell ⟨w.heap.size, 1, none⟩ (.slice sa (sn) sc)).setCell ⟨w.heap.size, 2, none⟩ (.slice ha hn hc)) = V9 at zt zr ⊢
          obtain ⟨⟨c0, c1, c2⟩, _⟩ := rowN3 zr
          exact bodyPost_ret (v := .agg #[(.slice ra (rn + 1) rc), (.slice sa (sn) sc), (.slice ha hn hc)]) (by simp only [results, Tryz.results44]; simp [go_sem, c0, c1, c2]) rfl zt
        have hx2' : (x == 2) = false := by simp [hx2]
        clear hx0 hx1 hx2
        have HPD : Hid (PDx w sb rn sn hn WW) := ⟨_, _, _, HM.out, HR.out⟩
        have HLA : Hid (lenAt (w.heap.size + 1) WW = rn) := lenAt_row HR.out
        clear HM HR
        go_wp2_with fail
        go_loopw [] (fun wr => ∃ rn : Nat, rn ≤ 101 ∧ Hid (PDx w sb rn sn hn wr) ∧ Hid (lenAt (w.heap.size + 1) wr = rn)) (fun wr => 200 - lenAt (w.heap.size + 1) wr)
        case atStart => exact ⟨rn, by omega, HPD, HLA⟩
        case round =>
          clear HPD HLA hrn2 hrn
          obtain ⟨rn, hrn2, hP, hLA⟩ := hrel
          obtain ⟨rv, sv, hv, hM, hR⟩ := hP.out
          obtain ⟨ra, rc, rfl, _⟩ := hM.ro.shape
          obtain ⟨sa, sc, rfl, _⟩ := hM.so.shape
          obtain ⟨ha, hc, rfl, _⟩ := hM.ho.shape
          have HM := Lib.hid hM
          have HR := Lib.hid hR
          clear hP hM hR
          go_wp2_with fail
          refine wp_region_held_drew (S := fun V => V.rowIs (w.heap.size + 1) 32 3 (rowN [(.slice ra rn rc), (.slice sa sn sc), (.slice ha hn hc)])) (by kernel_rfl) (nrow_below HR.out (Below.refl _ _).drew) (fun hHeld => ?_)
          obtain ⟨Z, hZ⟩ : ∃ Z, Z = wr.drew := ⟨_, rfl⟩
          replace HM : Hid (PM w sb (.slice ra rn rc) (.slice sa sn sc) (.slice ha hn hc) rn sn hn Z) := by show PM _ _ _ _ _ _ _ _ _; rw [hZ]; exact HM.out.below (Below.refl _ _).drew
          rw [← hZ] at hHeld ⊢
          clear hZ HR
          refine take_do (i := 0) (v := (.pointer (some ⟨w.heap.size + 1, 0, none⟩))) rfl (by kernel_rfl) (by kernel_rfl) (by kernel_rfl) (fun _ _ _ h => h) (by rfl) ?_ (by assumption) ?_
          · intro w hSw
            skip
            go_simp
          simp only [Act.put, List.setIfInBounds_toArray, List.set_cons_zero, List.set_cons_succ]
          refine take_do (i := 1) (v := (.slice ra rn rc)) rfl (by kernel_rfl) (by kernel_rfl) (by kernel_rfl) (fun _ _ _ h => h) (by rfl) ?_ (by assumption) ?_
          · intro w hSw
            obtain ⟨⟨x0, x1, x2⟩, _⟩ := rowN3 hSw
            go_simp
          simp only [Act.put, List.setIfInBounds_toArray, List.set_cons_zero, List.set_cons_succ]
          refine take_do (i := 2) (v := (.int .i64 rn)) rfl (by kernel_rfl) (by kernel_rfl) (by kernel_rfl) (fun _ _ _ h => h) (by rfl) ?_ (by assumption) ?_
          · intro w hSw
            skip
            go_simp
          simp only [Act.put, List.setIfInBounds_toArray, List.set_cons_zero, List.set_cons_succ]
          refine take_do (i := 3) (v := (.pointer (some ⟨sb, 0, none⟩))) rfl (by kernel_rfl) (by kernel_rfl) (by kernel_rfl) (fun _ _ _ h => h) (by rfl) ?_ (by assumption) ?_
          · intro w hSw
            skip
            go_simp
          simp only [Act.put, List.setIfInBounds_toArray, List.set_cons_zero, List.set_cons_succ]
          refine take_call (i := 4) rfl (by kernel_rfl) (fun K2 hK => ?_)
          go_simp
          refine (n_any sb 3 _ HM.out.src.1 (by omega)).mono ?_
          rintro e Y1 ⟨⟨v3, rfl, v30, v31, _⟩, hD⟩
          have v3b : 0 ≤ v3 ∧ v3 < 3 := by have := v31 (by omega); omega
          clear v30 v31
          replace HM := Lib.hid (HM.out.draw hD)
          have hR2 := row_chg hHeld (by have := HM.out.sbl; omega) hD.2
          clear hD
          go_wp2_with fail
          refine hK.out _ _ hR2 (fun hHeld2 => ?_)
          clear hK hHeld hR2
          have hHeld := hHeld2
          clear hHeld2
          refine take_do (i := 5) (v := (.int .i64 (99 + v3))) rfl (by kernel_rfl) (by kernel_rfl) (by kernel_rfl) (fun _ _ _ h => h) (by rfl) ?_ (by assumption) ?_
          · intro w hSw
            skip
            go_simp
            try exact dywr (by omega) (by omega)
          simp only [Act.put, List.setIfInBounds_toArray, List.set_cons_zero, List.set_cons_succ]
          refine take_do (i := 6) (v := (.bool (decide ((rn : Int) < 99 + v3)))) rfl (by kernel_rfl) (by kernel_rfl) (by kernel_rfl) (fun _ _ _ h => h) (by rfl) ?_ (by assumption) ?_
          · intro w hSw
            skip
            go_simp
          simp only [Act.put, List.setIfInBounds_toArray, List.set_cons_zero, List.set_cons_succ]
          refine wpAnyH_done (by kernel_rfl) ?_ _
          have HR := Lib.hid hHeld
          clear hHeld
          by_cases cq : (rn : Int) < 99 + v3
          · rw [decide_eq_true cq]
            obtain ⟨⟨y0, y1, y2⟩, f0, f1, f2⟩ := rowN3 HR.out
            have hl0 := HR.out.lt
            obtain ⟨zs, hown⟩ := HM.out.ro
            go_wp2_with (at_builtin; refine wpList_append_own _ rfl _ _ 30 rfl w.heap.size 61 j0 (.agg #[.int .i64 0, .int .i64 0, .int .i64 0]) 3 24 Tryz.underlying30 hj0 hj1 hj2 hj3 rfl (by decide) _ _ _ rfl (hown.alloc _) ⟨Y1.heap.size, 0, none⟩ 1 1 [.int .i64 0, .int .i64 1, .int .i64 1] rfl rfl ?c1 ?c2 ?c3 ?c4 ?c5 ?_)
            case c1 =>
              intro j u hj
              match j, hj with
              | 0, hj => simp at hj; subst hj; simp [Addr.add]
              | 1, hj => simp at hj; subst hj; simp [Addr.add]
              | 2, hj => simp at hj; subst hj; simp [Addr.add]
            case c2 => intro u hu; simp at hu; rcases hu with rfl | rfl <;> rfl
            case c3 => unfold maxLen; omega
            case c4 => omega
            case c5 => have := HM.out.src.2.size; simp; omega
            intro v' w12 hown2 hgrow hnil
            have hb12 : Below Y1.heap.size Y1 (Y1.alloc (.cells #[.int .i64 0, .int .i64 1, .int .i64 1] 61)) := nbel_alloc _ _
            have hoz : OwZ 61 3 w.heap.size v' (rn + 1) w12 := ⟨zs ++ [0, 1, 1], by rw [List.map_append]; exact hown2⟩
            obtain ⟨a9, c9, rfl, _⟩ := hoz.shape
            have hM2 := HM.out.below hb12
            have HR12 := Lib.hid (row_grown (nrow_below HR.out hb12) hM2.ro (by decide) hgrow)
            have HM12 := Lib.hid (hM2.rows hgrow hoz)
            clear hown hown2 hgrow hnil hb12 hoz hM2 HM HR y0 y1 y2 f0 f1 f2 hl0
            obtain ⟨⟨y0, y1, y2⟩, f0, f1, f2⟩ := rowN3 HR12.out
            have hl0 := HR12.out.lt
            have hpx : PDx w sb (rn + 1) sn hn (w12.setCell ⟨w.heap.size + 1, 0, none⟩ (.slice a9 (rn + 1) c9)) := ⟨_, _, _, HM12.out.set HR12.out (by omega) _, rowN_put HR12.out 0 _ (by simp)⟩
            have HPX := Lib.hid hpx
            have HLX : Hid (lenAt (w.heap.size + 1) (w12.setCell ⟨w.heap.size + 1, 0, none⟩ (.slice a9 (rn + 1) c9)) = rn + 1) := lenAt_row (rowN_put HR12.out 0 (.slice a9 (rn + 1) c9) (by simp))
            clear hpx HM12 HR12
            go_wp2_with fail
            go_roundw
            case rel => exact ⟨rn + 1, by omega, HPX, HLX⟩
            case measure => rw [hLA.out, HLX.out]; omega
          · rw [decide_eq_false cq]
            obtain ⟨⟨y0, y1, y2⟩, _⟩ := rowN3 HR.out
            obtain ⟨⟨e0, e1, e2⟩, k0, k1, k2⟩ := rowN3 HM.out.res
            have hol := HM.out.res.lt
            go_wp2_with fail
            have zt := HM.out.told (by omega) (by omega) (by omega) rfl
            have zr := rowN_put (rowN_put (rowN_put HM.out.res 0 (.slice ra (rn) rc) (by simp)) 1 (.slice sa (sn) sc) (by simp)) 2 (.slice ha hn hc) (by simp)
            generalize (((Y1.setCell ⟨w.heap.size, 0, none⟩ (.slice ra (rn) rc)).setCell ⟨w.heap.size, 1, none⟩ (.slice sa (sn) sc)).setCell ⟨w.heap.size, 2, none⟩ (.slice ha hn hc)) = V9 at zt zr ⊢
            obtain ⟨⟨c0, c1, c2⟩, _⟩ := rowN3 zr
            obtain ⟨⟨pn, pa, pk, pfa, pfk, pwa, pwk, z1, z2⟩, z3⟩ := zt
            exact bodyPost_ret (v := .agg #[(.slice ra (rn) rc), (.slice sa (sn) sc), (.slice ha hn hc)]) (by simp only [results, Tryz.results44]; simp [go_sem, c0, c1, c2]) rfl ⟨⟨pn, pa, pk, pfa, pfk, pwa, ⟨pwk, z1⟩, z2⟩, z3⟩
end Go.Proofs.YtipmjobhegpdgaaGreatDoor
namespace Go.Proofs.YtipmjobhegpdgaaGreatDoor
open Go Go.RowKit Go.Deep
namespace Fl

theorem nodup_le : ∀ (l l' : List Nat), l.Nodup → (∀ x ∈ l, x ∈ l') → l.length ≤ l'.length
  | [], _, _, _ => Nat.zero_le _
  | a :: l, l', h, s => by
    have ha := s a List.mem_cons_self
    have h1 := nodup_le l (l'.erase a) (List.nodup_cons.1 h).2 (fun x hx => (List.mem_erase_of_ne (fun e => (List.nodup_cons.1 h).1 (by rw [← e]; exact hx))).2 (s x (List.mem_cons_of_mem _ hx)))
    rw [List.length_erase_of_mem ha] at h1
    have h2 : 0 < l'.length := List.length_pos_of_mem ha
    simp only [List.length_cons]
    omega
theorem sm_count (P : Nat → Bool) (n : Nat) : sm (fun i => if P i = true then 1 else 0) n = (((List.range n).filter P).length : Int) := by
  induction n with
  | zero => rfl
  | succ n ih =>
    simp only [sm]
    rw [ih, List.range_succ, List.filter_append, List.length_append]
    by_cases h : P n = true
    · rw [if_pos h]; simp [h]
    · rw [if_neg h]; simp [h]
/-- What a row bears over the border from a to b. -/
noncomputable def tm (p : Pl.Plan) (M : Nat → Bool) (i a b : Nat) : Int := if dB (M a = false ∧ M b = true ∧ btw p i a b) = true then 1 else 0
theorem sm_two {n x y : Nat} {g : Nat → Nat → Int} (hx : x < n) (hy : y < n) (h : ∀ b a, b ≠ y ∨ a ≠ x → g b a = 0) : sm (fun b => sm (fun a => g b a) n) n = g y x := by
  rw [sm_one hy (fun b _ ne => sm_zero (fun a _ => h b a (Or.inl ne)))]
  exact sm_one hx (fun a _ ne => h y a (Or.inr ne))
theorem inn_cc {p : Pl.Plan} (hr : Pl.Right p) (M : Nat → Bool) : inn p.hn M (cc p) = ((about p M).length : Int) := by
  have e1 : inn p.hn M (cc p) = sm (fun b => sm (fun a => sm (fun i => tm p M i a b) p.rn) p.hn) p.hn := by
    unfold inn
    refine sm_congr (fun b _ => sm_congr (fun a _ => ?_))
    by_cases h : M a = false ∧ M b = true
    · rw [if_pos h]
      unfold cc
      refine sm_congr (fun i _ => ?_)
      unfold tm
      by_cases hb : btw p i a b
      · rw [if_pos hb, dB_tt ⟨h.1, h.2, hb⟩]; rfl
      · rw [if_neg hb, dB_ff (fun x => hb x.2.2)]; rfl
    · rw [if_neg h, sm_zero]
      intro i _
      unfold tm
      rw [dB_ff (fun x => h ⟨x.1, x.2.1⟩)]; rfl
  have e2 : sm (fun b => sm (fun a => sm (fun i => tm p M i a b) p.rn) p.hn) p.hn = sm (fun i => sm (fun b => sm (fun a => tm p M i a b) p.hn) p.hn) p.rn := by
    rw [← sm_swap (fun b i => sm (fun a => tm p M i a b) p.hn)]
    exact sm_congr (fun b _ => sm_swap (fun a i => tm p M i a b) _ _)
  rw [e1, e2]
  unfold about
  rw [← sm_count]
  refine sm_congr (fun i hi => ?_)
  have hf := hr.from_lt hi
  have ht := hr.to_lt hi
  have hne := hr.ne hi
  cases e : M (p.from_ i) with
  | false =>
    cases e' : M (p.to_ i) with
    | false =>
      rw [if_neg (by simp)]
      refine sm_zero (fun b _ => sm_zero (fun a _ => ?_))
      unfold tm
      rw [dB_ff]; · rfl
      rintro ⟨h1, h2, ⟨h3, h4⟩ | ⟨h3, h4⟩⟩
      · rw [← h4, e'] at h2; cases h2
      · rw [← h3, e] at h2; cases h2
    | true =>
      rw [if_pos (by simp), sm_two (g := fun b a => tm p M i a b) hf ht]
      · show tm p M i _ _ = 1
        unfold tm
        rw [dB_tt ⟨e, e', Or.inl ⟨rfl, rfl⟩⟩]; rfl
      · intro b a hba
        show tm p M i a b = 0
        unfold tm
        rw [dB_ff]; · rfl
        rintro ⟨h1, h2, ⟨h3, h4⟩ | ⟨h3, h4⟩⟩
        · rcases hba with h | h
          · exact h h4.symm
          · exact h h3.symm
        · rw [← h3, e] at h2; cases h2
  | true =>
    cases e' : M (p.to_ i) with
    | true =>
      rw [if_neg (by simp)]
      refine sm_zero (fun b _ => sm_zero (fun a _ => ?_))
      unfold tm
      rw [dB_ff]; · rfl
      rintro ⟨h1, h2, ⟨h3, h4⟩ | ⟨h3, h4⟩⟩
      · rw [← h3, e] at h1; cases h1
      · rw [← h4, e'] at h1; cases h1
    | false =>
      rw [if_pos (by simp), sm_two (g := fun b a => tm p M i a b) ht hf]
      · show tm p M i _ _ = 1
        unfold tm
        rw [dB_tt ⟨e', e, Or.inr ⟨rfl, rfl⟩⟩]; rfl
      · intro b a hba
        show tm p M i a b = 0
        unfold tm
        rw [dB_ff]; · rfl
        rintro ⟨h1, h2, ⟨h3, h4⟩ | ⟨h3, h4⟩⟩
        · rw [← h3, e] at h1; cases h1
        · rcases hba with h | h
          · exact h h3.symm
          · exact h h4.symm
/-- The places that are dry by a set. -/
noncomputable def dryB (p : Pl.Plan) (N : Nat) (f : Nat → Int) (v : Nat) : Bool := dB (¬ Pl.Wet p (Pl.In N f) v)
theorem dryB_tt {p : Pl.Plan} {N : Nat} {f : Nat → Int} {v : Nat} : dryB p N f v = true ↔ ¬ Pl.Wet p (Pl.In N f) v := dB_iff
theorem dryB_ff {p : Pl.Plan} {N : Nat} {f : Nat → Int} {v : Nat} : dryB p N f v = false ↔ Pl.Wet p (Pl.In N f) v := by
  constructor
  · intro h
    exact Classical.byContradiction (fun x => by have := dryB_tt.2 x; rw [h] at this; cases this)
  · intro h
    cases e : dryB p N f v with
    | false => rfl
    | true => exact absurd h (dryB_tt.1 e)
theorem set_gd {p : Pl.Plan} {N : Nat} {f : Nat → Int} (h : Pl.SetOk p N f) {i : Nat} (hi : Pl.In N f i) : p.R (i * 3 + 2) = 1 := by
  obtain ⟨j, hj, e⟩ := hi
  have := h.2 j hj
  rw [e, Int.toNat_natCast] at this
  exact this
theorem dryB_cut {p : Pl.Plan} {N : Nat} {f : Nat → Int} (h : Pl.SetOk p N f) {t : Nat} (hd : ¬ Pl.Wet p (Pl.In N f) t) : Cut p.hn (hh p) (isSrc p) t (dryB p N f) := by
  refine ⟨dryB_tt.2 hd, fun a ha ⟨i, hi, e⟩ => dryB_ff.2 ?_, fun a b ha hb ea eb ⟨i, hi, hw, hv⟩ => ?_⟩
  · have := Pl.Wet.src (p := p) (sh := Pl.In N f) i hi
    rw [e] at this
    simpa using this
  · have h1 := dryB_ff.1 ea
    have h2 := dryB_tt.1 eb
    have h3 : ¬ Pl.In N f i := fun x => hv (set_gd h x)
    rcases hw with ⟨e1, e2⟩ | ⟨e1, e2⟩
    · rw [← e1] at h1; rw [← e2] at h2; exact h2 (.fwd i hi h3 h1)
    · rw [← e2] at h1; rw [← e1] at h2; exact h2 (.bwd i hi h3 h1)
theorem dry_about {p : Pl.Plan} {N : Nat} {f : Nat → Int} : (about p (dryB p N f)).length ≤ N := by
  have := nodup_le (about p (dryB p N f)) ((List.range N).map (fun j => (f j).toNat)) (List.nodup_range.sublist List.filter_sublist) (fun i hi => ?_)
  · simpa using this
  · obtain ⟨h1, h2⟩ := List.mem_filter.1 hi
    have h1 := List.mem_range.1 h1
    have h3 : Pl.In N f i := Classical.byContradiction (fun x => by
      have e : dryB p N f (p.from_ i) = dryB p N f (p.to_ i) := by
        cases e1 : dryB p N f (p.from_ i) with
        | false => exact (dryB_ff.2 (.fwd i h1 x (dryB_ff.1 e1))).symm
        | true =>
          cases e2 : dryB p N f (p.to_ i) with
          | true => rfl
          | false => have := dryB_ff.2 (.bwd i h1 x (dryB_ff.1 e2)); rw [e1] at this; cases this
      rw [e] at h2
      simp at h2)
    obtain ⟨j, hj, e⟩ := h3
    exact List.mem_map.2 ⟨j, List.mem_range.2 hj, by rw [e]; simp⟩
/-- No set by which the place is dry has fewer rows. -/
theorem least_len {p : Pl.Plan} {t N : Nat} {f : Nat → Int} (h : Pl.ShutOk p (t : Int) N f) : (lrows p (t : Int)).length ≤ N := by
  obtain ⟨ha, v, e, hv, hd⟩ := h
  obtain rfl : t = v := by omega
  unfold lrows
  split
  case isTrue q =>
    obtain ⟨_, hB⟩ := dB_iff.1 q
    have hb := Classical.epsilon_spec hB
    generalize Classical.epsilon (Best p (t : Int).toNat) = N0 at hb ⊢
    rw [Int.toNat_natCast] at hb
    obtain ⟨F, k, hf, hn⟩ := hb.ex
    have h1 := hn.size hf hv hb.far
    have h2 := hf.le_cut hv (dryB_cut ha.set hd)
    rw [inn_cc ha.right] at h1 h2
    have h3 := dry_about (p := p) (N := N) (f := f)
    omega
  case isFalse => simp
/-- Of as many rows none leaves fewer places dry. -/
theorem least_dry {p : Pl.Plan} {t N : Nat} {f : Nat → Int} (h : Pl.ShutOk p (t : Int) N f) (hl : N ≤ (lrows p (t : Int)).length) : (Pl.dry p (lrows p (t : Int)).length (fun j => (((lrows p (t : Int)).getD j 0 : Nat) : Int))).length ≤ (Pl.dry p N f).length := by
  obtain ⟨ha, v, e, hv, hd⟩ := h
  obtain rfl : t = v := by omega
  have hin : ∀ i, Pl.In (lrows p (t : Int)).length (fun j => (((lrows p (t : Int)).getD j 0 : Nat) : Int)) i → i ∈ lrows p (t : Int) := fun i ⟨j, hj, e⟩ => by
    have e2 : (lrows p (t : Int)).getD j 0 = i := Int.ofNat.inj e
    rw [← e2, List.getD_eq_getElem?_getD, List.getElem?_eq_getElem hj, Option.getD_some]
    exact List.getElem_mem hj
  have key : ∀ u, Pl.Wet p (Pl.In N f) u → Pl.Wet p (Pl.In (lrows p (t : Int)).length (fun j => (((lrows p (t : Int)).getD j 0 : Nat) : Int))) u := by
    by_cases q : lcode p (t : Int) = 0 ∧ ∃ N, Best p (t : Int).toNat N
    · have hb := Classical.epsilon_spec q.2
      have hlr : lrows p (t : Int) = about p (Classical.epsilon (Best p (t : Int).toNat)) := by unfold lrows; rw [dB_tt q]; rfl
      rw [hlr] at hl
      generalize Classical.epsilon (Best p (t : Int).toNat) = N0 at hb hlr hl
      rw [Int.toNat_natCast] at hb
      obtain ⟨F, k, hf, hn⟩ := hb.ex
      have h1 := hn.size hf hv hb.far
      have h3 := dry_about (p := p) (N := N) (f := f)
      have hsub := hn.sub hf hv (dryB_cut ha.set hd) (by rw [inn_cc ha.right] at h1 ⊢; omega)
      have hno : ∀ i, i < p.rn → Pl.Wet p (Pl.In N f) (p.from_ i) → Pl.Wet p (Pl.In N f) (p.to_ i) → ¬ Pl.In (lrows p (t : Int)).length (fun j => (((lrows p (t : Int)).getD j 0 : Nat) : Int)) i := fun i hi w1 w2 x => by
        have hm := hin i x
        rw [hlr] at hm
        have hc := (List.mem_filter.1 hm).2
        have z : ∀ u, u < p.hn → Pl.Wet p (Pl.In N f) u → N0 u = false := fun u hu hw => by
          cases e : N0 u with
          | false => rfl
          | true => exact absurd hw (dryB_tt.1 (hsub u hu e))
        rw [z _ (ha.right.from_lt hi) w1, z _ (ha.right.to_lt hi) w2] at hc
        simp at hc
      intro u hu
      induction hu with
      | src i h => exact .src i h
      | fwd i hi hs hw ih => exact .fwd i hi (hno i hi hw (.fwd i hi hs hw)) ih
      | bwd i hi hs hw ih => exact .bwd i hi (hno i hi (.bwd i hi hs hw) hw) ih
    · have hlr : lrows p (t : Int) = [] := by unfold lrows; rw [dB_ff q]; rfl
      intro u hu
      refine hu.mono (fun i x => ?_)
      have := hin i x
      rw [hlr] at this
      simp at this
  unfold Pl.dry
  rw [dB_tt ha, if_pos rfl]
  split
  · unfold Pl.dryL
    rw [← List.countP_eq_length_filter, ← List.countP_eq_length_filter]
    refine List.countP_mono_left (fun u _ hu => ?_)
    have hu := dB_iff.1 hu
    exact dB_iff.2 (fun x => hu (key u x))
  · simp
/-- It can be told. -/
theorem least_code {p : Pl.Plan} {t N : Nat} {f : Nat → Int} (h : Pl.ShutOk p (t : Int) N f) : lcode p (t : Int) = 0 := by
  obtain ⟨ha, v, e, hv, hd⟩ := h
  obtain rfl : t = v := by omega
  exact lcode_ok ha.right hv (fun k => hd (k.mono (fun i hi => ⟨by
    obtain ⟨j, hj, e⟩ := hi
    have := (ha.set.1 j hj).1.2
    omega, set_gd ha.set hi⟩)))
end Fl
end Go.Proofs.YtipmjobhegpdgaaGreatDoor
namespace Go.Proofs.YtipmjobhegpdgaaGreatDoor
open Go Go.RowKit Go.Deep

/-- A list of numbers does not lie where a plan lies. -/
theorem isAt_set2 {a : Option Addr} {N : Nat} {f : Nat → Int} {W : World} {g i : Nat} {T : TypeId} {a0 : Option Addr} {n0 c0 : Nat} {x y : Value} (h : IsAt a N f W) (hr : W.rowIs g T 3 (rowN [.slice a0 n0 c0, x, y])) (v : Value) : IsAt a N f (W.setCell ⟨g, i, none⟩ v) := by
  rcases h with h | ⟨b, e, h⟩
  · exact Or.inl h
  · by_cases hN : N = 0
    · exact Or.inl hN
    refine Or.inr ⟨b, e, fun j hj => ?_⟩
    have hbg : b ≠ g := by
      intro e2
      subst e2
      obtain ⟨⟨k0, _, _⟩, _⟩ := rowN3 hr
      have := h 0 (by omega)
      rw [k0] at this
      cases this
    rw [World.cell?_of_block (w := W) (Below.heap_setCell _ _ _ _ hbg)]
    exact h j hj
set_option maxRecDepth 100000 in
set_option maxHeartbeats 8000000 in
theorem drawShut_any (a : Option Addr) (len cap : Nat) (w : World) (hB : Bytes a len w) (hl : len ≤ 1048576) :
    Calls Tryz.prog 23 #[.slice a len cap] w fun e w' => (∃ (n : Pl.Plan) (la : Option Addr) (lk : Nat) (fa : Option Addr) (fk : Nat) (wa : Option Addr) (wk : Nat) (pl : Int) (sa : Option Addr) (m sc : Nat) (f : Nat → Int), e = .returned (.tuple #[plV n la lk fa fk wa wk, .int .i64 pl, .slice sa m sc]) ∧ PlAt n la fa wa w' ∧ PlSmall n ∧ (fa = none → n.sn = 0) ∧ IsAt sa m f w' ∧ m ≤ 1000 ∧ (sa = none → sc = 0)) ∧ Below w.heap.size w w' := by
  obtain ⟨W, hW⟩ : ∃ W, W = w.alloc (.cells #[.slice none 0 0, .slice none 0 0, .slice none 0 0] 32) := ⟨_, rfl⟩
  have hb : Below w.heap.size w W := by rw [hW]; exact nbel_alloc _ _
  have HR : Hid (W.rowIs w.heap.size 32 3 (rowN [.slice none 0 0, .slice none 0 0, .slice none 0 0])) := by show World.rowIs _ _ _ _ _; rw [hW]; exact rowN_alloc w _ _
  have HB := Lib.hid hb
  have HBY := Lib.hid (hB.below hb)
  have HW := Lib.hid hW
  clear hW hb hB
  go_enter Tryz.func23, Tryz.ntmps23
  go_wp2_with fail
  rw [← HW.out]
  clear HW
  refine (source_any a len cap _ HBY.out (by omega)).mono ?_
  rintro e w1 ⟨rfl, hS, hb1⟩
  have hsl := HR.out.lt
  replace HB : Hid (Below w.heap.size w w1) := HB.out.trans (hb1.mono HB.out.size)
  replace HR := Lib.hid (nrow_below HR.out hb1)
  obtain ⟨sb, hsb⟩ : ∃ sb, sb = W.heap.size := ⟨_, rfl⟩
  rw [← hsb] at hS hsl ⊢
  have HS := Lib.hid hS
  clear hS hb1 hsb
  go_wp2_with fail
  refine (dplan_any sb _ HS.out).mono ?_
  rintro e w2 ⟨⟨n, la, lk, fa, fk, wa, wk, rfl, hP, hsm, ho, hfn, hrn, hhn⟩, hD⟩
  have HHB2 : Hid (Below w.heap.size w w2) := HB.out.trans (hD.2.below (by omega) HB.out.size)
  replace HR := Lib.hid (row_chg HR.out (by omega) hD.2)
  obtain ⟨W2, hW2⟩ : ∃ W2, W2 = w2.alloc (.cells #[.slice la n.rn lk, .slice fa n.sn fk, .slice wa n.hn wk] 32) := ⟨_, rfl⟩
  have hb2 : Below w2.heap.size w2 W2 := by rw [hW2]; exact nbel_alloc _ _
  obtain ⟨g5, hg5⟩ : ∃ g5, g5 = w2.heap.size := ⟨_, rfl⟩
  have H5 : Hid (W2.rowIs g5 32 3 (rowN (plL n la lk fa fk wa wk))) := by show World.rowIs _ _ _ _ _; rw [hW2, hg5]; exact rowN_alloc w2 _ _
  have hg5s : sb < g5 ∧ w.heap.size < g5 := by have h1 := hD.1.lt; have h2 := HR.out.lt; omega
  replace HR := Lib.hid (nrow_below HR.out hb2)
  have HSR := Lib.hid (hD.1.below hb2)
  have HP := Lib.hid (hP.below hb2)
  have HB2 : Hid (Below w.heap.size w W2) := HHB2.out.trans (hb2.mono HHB2.out.size)
  have HSM := Lib.hid hsm
  have HO := Lib.hid ho
  have HFN := Lib.hid hfn
  have HW2 := Lib.hid hW2
  clear hP hsm ho hfn hD hb2 HHB2 HB HS hW2
  go_wp2_with fail
  rw [← HW2.out, ← hg5]
  clear HW2 hg5
  refine (n_any sb (n.hn : Int) _ HSR.out (by omega)).mono ?_
  rintro e w3 ⟨⟨pl, rfl, _, _, _⟩, hD⟩
  replace HR := Lib.hid (row_chg HR.out (by omega) hD.2)
  replace H5 := Lib.hid (row_chg H5.out (by omega) hD.2)
  replace HP := Lib.hid (HP.out.chg HO.out hD.2)
  replace HB2 : Hid (Below w.heap.size w w3) := HB2.out.trans (hD.2.below (by omega) HB2.out.size)
  replace HSR := Lib.hid hD.1
  clear hD
  go_wp2_with fail
  refine (one_any sb 2 _ HSR.out (by omega)).mono ?_
  rintro e w4 ⟨⟨b, rfl⟩, hD⟩
  replace HR := Lib.hid (row_chg HR.out (by omega) hD.2)
  replace H5 := Lib.hid (row_chg H5.out (by omega) hD.2)
  replace HP := Lib.hid (HP.out.chg HO.out hD.2)
  replace HB2 : Hid (Below w.heap.size w w4) := HB2.out.trans (hD.2.below (by omega) HB2.out.size)
  replace HSR := Lib.hid hD.1
  clear hD
  obtain ⟨⟨p0, p1, p2⟩, _⟩ := rowN3 H5.out
  cases b with
  | true =>
    go_wp2_with fail
    refine wp_region_held_drew (S := fun V => V.rowIs g5 32 3 (rowN (plL n la lk fa fk wa wk))) (by kernel_rfl) (nrow_below H5.out (Below.refl _ _).drew) (fun hHeld => ?_)
    obtain ⟨Z, hZ⟩ : ∃ Z, Z = w4.drew := ⟨_, rfl⟩
    have hbz : Below w4.heap.size w4 Z := by rw [hZ]; exact (Below.refl _ _).drew
    replace HR := Lib.hid (nrow_below HR.out hbz)
    replace HSR := Lib.hid (HSR.out.below hbz)
    replace HP := Lib.hid (HP.out.below hbz)
    replace HB2 : Hid (Below w.heap.size w Z) := HB2.out.trans (hbz.mono HB2.out.size)
    rw [← hZ] at hHeld ⊢
    clear hZ hbz H5 p0 p1 p2
    refine take_do (i := 0) (v := (plV n la lk fa fk wa wk)) rfl (by kernel_rfl) (by kernel_rfl) (by kernel_rfl) (fun _ _ _ h => h) (by rfl) ?_ (by assumption) ?_
    · intro w hSw
      obtain ⟨⟨x0, x1, x2⟩, _⟩ := rowN3 hSw
      go_simp
    simp only [Act.put, List.setIfInBounds_toArray, List.set_cons_zero, List.set_cons_succ]
    refine take_do (i := 1) (v := (.int .i64 pl)) rfl (by kernel_rfl) (by kernel_rfl) (by kernel_rfl) (fun _ _ _ h => h) (by rfl) ?_ (by assumption) ?_
    · intro w hSw
      go_simp
    simp only [Act.put, List.setIfInBounds_toArray, List.set_cons_zero, List.set_cons_succ]
    refine take_do (i := 2) (v := (plV n la lk fa fk wa wk)) rfl (by kernel_rfl) (by kernel_rfl) (by kernel_rfl) (fun _ _ _ h => h) (by rfl) ?_ (by assumption) ?_
    · intro w hSw
      obtain ⟨⟨x0, x1, x2⟩, _⟩ := rowN3 hSw
      go_simp
    simp only [Act.put, List.setIfInBounds_toArray, List.set_cons_zero, List.set_cons_succ]
    refine take_do (i := 3) (v := (.int .i64 pl)) rfl (by kernel_rfl) (by kernel_rfl) (by kernel_rfl) (fun _ _ _ h => h) (by rfl) ?_ (by assumption) ?_
    · intro w hSw
      go_simp
    simp only [Act.put, List.setIfInBounds_toArray, List.set_cons_zero, List.set_cons_succ]
    refine take_call (i := 4) rfl (by kernel_rfl) (fun K2 hK => ?_)
    go_simp
    refine (specLeast_any n la lk fa fk wa wk pl _ HP.out HSM.out).mono ?_
    rintro e w5 ⟨⟨rv, rfl, hO⟩, hb⟩
    have hoz : OwZ 2 1 Z.heap.size rv (Fl.lrows n pl).length w5 := ⟨(Fl.lrows n pl).map (fun x : Nat => (x : Int)), by rw [List.map_map]; exact hO⟩
    obtain ⟨sa, sc, hv, hnil⟩ := hoz.shape
    subst hv
    have hzl : (Fl.lrows n pl).length ≤ 1000 := Nat.le_trans Fl.lrows_len hrn
    obtain ⟨m, hm⟩ : ∃ m, m = (Fl.lrows n pl).length := ⟨_, rfl⟩
    obtain ⟨y1, hy1⟩ : ∃ y1, y1 = Fl.lhomes n pl := ⟨_, rfl⟩
    obtain ⟨y2, hy2⟩ : ∃ y2, y2 = Fl.lcode n pl := ⟨_, rfl⟩
    rw [← hm] at hoz hzl hnil ⊢
    rw [← hy1, ← hy2]
    have HOZ := Lib.hid hoz
    have HNIL := Lib.hid hnil
    have HZB : Hid (w.heap.size < Z.heap.size) := HR.out.lt
    replace HP := Lib.hid (HP.out.below hb)
    replace HR := Lib.hid (nrow_below HR.out hb)
    have HB3 : Hid (Below w.heap.size w w5) := HB2.out.trans (hb.mono HB2.out.size)
    have hR5 := nrow_below hHeld hb
    clear hO hb hoz hm hy1 hy2 hnil HB2 HSR
    go_wp2_with fail
    refine hK.out _ _ hR5 (fun hHeld2 => ?_)
    clear hK hHeld hR5
    refine take_do (i := 5) (v := (.slice sa m sc)) rfl (by kernel_rfl) (by kernel_rfl) (by kernel_rfl) (fun _ _ _ h => h) (by rfl) ?_ (by assumption) ?_
    · intro w hSw
      have hfld := shut_field sa m sc y1 y2 w
      go_simp
    simp only [Act.put, List.setIfInBounds_toArray, List.set_cons_zero, List.set_cons_succ]
    obtain ⟨⟨o0, o1, o2⟩, z0, z1, z2⟩ := rowN3 HR.out
    have hol := HR.out.lt
    obtain ⟨V, hV⟩ : ∃ V, V = ((w5.setCell ⟨w.heap.size, 0, none⟩ (.slice la n.rn lk)).setCell ⟨w.heap.size, 1, none⟩ (.slice fa n.sn fk)).setCell ⟨w.heap.size, 2, none⟩ (.slice wa n.hn wk) := ⟨_, rfl⟩
    have r1 := rowN_put HR.out 0 (.slice la n.rn lk) (by simp)
    have r2 := rowN_put r1 1 (.slice fa n.sn fk) (by simp)
    have r3 := rowN_put r2 2 (.slice wa n.hn wk) (by simp)
    have HRV : Hid (V.rowIs w.heap.size 32 3 (rowN (plL n la lk fa fk wa wk))) := by show World.rowIs _ _ _ _ _; rw [hV]; exact r3
    have HPV : Hid (PlAt n la fa wa V) := by
      show PlAt _ _ _ _ _
      rw [hV]
      have p := HP.out
      exact ⟨isAt_set2 (isAt_set2 (isAt_set2 p.l HR.out _) r1 _) r2 _, isAt_set2 (isAt_set2 (isAt_set2 p.f HR.out _) r1 _) r2 _, isAt_set2 (isAt_set2 (isAt_set2 p.w HR.out _) r1 _) r2 _⟩
    have HOV : Hid (∃ a c f, Value.slice sa m sc = .slice a m c ∧ IsAt a (m * 1) f V) := by
      obtain ⟨a, c, f, e, h1, _⟩ := HOZ.out.at_
      refine ⟨a, c, f, e, ?_⟩
      rw [hV]
      exact isAt_set2 (isAt_set2 (isAt_set2 h1 HR.out _) r1 _) r2 _
    have HBV : Hid (Below w.heap.size w V) := by
      show Below _ _ _
      rw [hV]
      exact ((HB3.out.setCell (p := ⟨w.heap.size, 0, none⟩) (Nat.le_refl _) _).setCell (p := ⟨w.heap.size, 1, none⟩) (Nat.le_refl _) _).setCell (p := ⟨w.heap.size, 2, none⟩) (Nat.le_refl _) _
    have hR5 : V.rowIs g5 32 3 (rowN (plL n la lk fa fk wa wk)) := by
      rw [hV]
      exact nrow_set (nrow_set (nrow_set hHeld2 (p := ⟨w.heap.size, 0, none⟩) (by show g5 ≠ w.heap.size; omega) _) (p := ⟨w.heap.size, 1, none⟩) (by show g5 ≠ w.heap.size; omega) _) (p := ⟨w.heap.size, 2, none⟩) (by show g5 ≠ w.heap.size; omega) _
    have HV := Lib.hid hV
    clear hV r1 r2 r3
    refine take_call (i := 6) rfl (by kernel_rfl) (fun K2 hK => ?_)
    go_simp
    rw [← HV.out]
    refine hK.out _ _ hR5 (fun hHeld => ?_)
    clear hK hHeld2 hR5 HV o0 o1 o2 z0 z1 z2 hol
    refine take_do (i := 7) (v := (.int .i64 pl)) rfl (by kernel_rfl) (by kernel_rfl) (by kernel_rfl) (fun _ _ _ h => h) (by rfl) ?_ (by assumption) ?_
    · intro w hSw
      go_simp
    simp only [Act.put, List.setIfInBounds_toArray, List.set_cons_zero, List.set_cons_succ]
    refine take_do (i := 8) (v := (.slice sa m sc)) rfl (by kernel_rfl) (by kernel_rfl) (by kernel_rfl) (fun _ _ _ h => h) (by rfl) ?_ (by assumption) ?_
    · intro w hSw
      go_simp
    simp only [Act.put, List.setIfInBounds_toArray, List.set_cons_zero, List.set_cons_succ]
    refine wpAnyH_done (by kernel_rfl) ?_ _
    clear hHeld
    obtain ⟨⟨c0, c1, c2⟩, _⟩ := rowN3 HRV.out
    go_wp2_with fail
    obtain ⟨a9, c9, f9, e9, h9⟩ := HOV.out
    injection e9 with ea _ ec
    subst ea ec
    exact bodyPost_ret (v := .tuple #[plV n la lk fa fk wa wk, .int .i64 pl, .slice sa m sc]) (by simp only [results, Tryz.results23]; simp [go_sem, c0, c1, c2]) rfl ⟨⟨n, la, lk, fa, fk, wa, wk, pl, sa, m, sc, f9, rfl, HPV.out, HSM.out, HFN.out, by simpa using h9, hzl, fun e => (HNIL.out e).2⟩, HBV.out⟩
  | false =>
    go_wp2_with fail
    refine wp_region_held_drew (S := fun V => V.rowIs g5 32 3 (rowN (plL n la lk fa fk wa wk))) (by kernel_rfl) (nrow_below H5.out (Below.refl _ _).drew) (fun hHeld => ?_)
    obtain ⟨Z, hZ⟩ : ∃ Z, Z = w4.drew := ⟨_, rfl⟩
    have hbz : Below w4.heap.size w4 Z := by rw [hZ]; exact (Below.refl _ _).drew
    replace HR := Lib.hid (nrow_below HR.out hbz)
    replace HSR := Lib.hid (HSR.out.below hbz)
    replace HP := Lib.hid (HP.out.below hbz)
    replace HB2 : Hid (Below w.heap.size w Z) := HB2.out.trans (hbz.mono HB2.out.size)
    rw [← hZ] at hHeld ⊢
    clear hZ hbz H5 p0 p1 p2
    refine take_do (i := 0) (v := (plV n la lk fa fk wa wk)) rfl (by kernel_rfl) (by kernel_rfl) (by kernel_rfl) (fun _ _ _ h => h) (by rfl) ?_ (by assumption) ?_
    · intro w hSw
      obtain ⟨⟨x0, x1, x2⟩, _⟩ := rowN3 hSw
      go_simp
    simp only [Act.put, List.setIfInBounds_toArray, List.set_cons_zero, List.set_cons_succ]
    refine take_do (i := 1) (v := (.int .i64 pl)) rfl (by kernel_rfl) (by kernel_rfl) (by kernel_rfl) (fun _ _ _ h => h) (by rfl) ?_ (by assumption) ?_
    · intro w hSw
      go_simp
    simp only [Act.put, List.setIfInBounds_toArray, List.set_cons_zero, List.set_cons_succ]
    refine take_do (i := 2) (v := (.pointer (some ⟨sb, 0, none⟩))) rfl (by kernel_rfl) (by kernel_rfl) (by kernel_rfl) (fun _ _ _ h => h) (by rfl) ?_ (by assumption) ?_
    · intro w hSw
      go_simp
    simp only [Act.put, List.setIfInBounds_toArray, List.set_cons_zero, List.set_cons_succ]
    refine take_do (i := 3) (v := (plV n la lk fa fk wa wk)) rfl (by kernel_rfl) (by kernel_rfl) (by kernel_rfl) (fun _ _ _ h => h) (by rfl) ?_ (by assumption) ?_
    · intro w hSw
      obtain ⟨⟨x0, x1, x2⟩, _⟩ := rowN3 hSw
      go_simp
    simp only [Act.put, List.setIfInBounds_toArray, List.set_cons_zero, List.set_cons_succ]
    refine take_call (i := 4) rfl (by kernel_rfl) (fun K2 hK => ?_)
    go_simp
    refine (dshut_any sb n la lk fa fk wa wk _ HSR.out HP.out HO.out HSM.out hrn hhn).mono ?_
    rintro e w5 ⟨v, rfl, ⟨zs, hzl, hown⟩, hD⟩
    have hoz : OwZ 2 1 Z.heap.size v zs.length w5 := ⟨zs, hown⟩
    obtain ⟨sa, sc, hv, hnil⟩ := hoz.shape
    subst hv
    obtain ⟨m, hm⟩ : ∃ m, m = zs.length := ⟨_, rfl⟩
    rw [← hm] at hoz hzl hnil ⊢
    have HOZ := Lib.hid hoz
    have HNIL := Lib.hid hnil
    have HZB : Hid (w.heap.size < Z.heap.size) := HR.out.lt
    replace HP := Lib.hid (HP.out.chg HO.out hD.2)
    replace HR := Lib.hid (row_chg HR.out (by omega) hD.2)
    have HB3 : Hid (Below w.heap.size w w5) := HB2.out.trans (hD.2.below (by omega) HB2.out.size)
    have hR5 := row_chg hHeld (by omega) hD.2
    clear hown hD hoz hm hnil HB2 HSR
    go_wp2_with fail
    refine hK.out _ _ hR5 (fun hHeld2 => ?_)
    clear hK hHeld hR5
    obtain ⟨⟨o0, o1, o2⟩, z0, z1, z2⟩ := rowN3 HR.out
    have hol := HR.out.lt
    obtain ⟨V, hV⟩ : ∃ V, V = ((w5.setCell ⟨w.heap.size, 0, none⟩ (.slice la n.rn lk)).setCell ⟨w.heap.size, 1, none⟩ (.slice fa n.sn fk)).setCell ⟨w.heap.size, 2, none⟩ (.slice wa n.hn wk) := ⟨_, rfl⟩
    have r1 := rowN_put HR.out 0 (.slice la n.rn lk) (by simp)
    have r2 := rowN_put r1 1 (.slice fa n.sn fk) (by simp)
    have r3 := rowN_put r2 2 (.slice wa n.hn wk) (by simp)
    have HRV : Hid (V.rowIs w.heap.size 32 3 (rowN (plL n la lk fa fk wa wk))) := by show World.rowIs _ _ _ _ _; rw [hV]; exact r3
    have HPV : Hid (PlAt n la fa wa V) := by
      show PlAt _ _ _ _ _
      rw [hV]
      have p := HP.out
      exact ⟨isAt_set2 (isAt_set2 (isAt_set2 p.l HR.out _) r1 _) r2 _, isAt_set2 (isAt_set2 (isAt_set2 p.f HR.out _) r1 _) r2 _, isAt_set2 (isAt_set2 (isAt_set2 p.w HR.out _) r1 _) r2 _⟩
    have HOV : Hid (∃ a c f, Value.slice sa m sc = .slice a m c ∧ IsAt a (m * 1) f V) := by
      obtain ⟨a, c, f, e, h1, _⟩ := HOZ.out.at_
      refine ⟨a, c, f, e, ?_⟩
      rw [hV]
      exact isAt_set2 (isAt_set2 (isAt_set2 h1 HR.out _) r1 _) r2 _
    have HBV : Hid (Below w.heap.size w V) := by
      show Below _ _ _
      rw [hV]
      exact ((HB3.out.setCell (p := ⟨w.heap.size, 0, none⟩) (Nat.le_refl _) _).setCell (p := ⟨w.heap.size, 1, none⟩) (Nat.le_refl _) _).setCell (p := ⟨w.heap.size, 2, none⟩) (Nat.le_refl _) _
    have hR5 : V.rowIs g5 32 3 (rowN (plL n la lk fa fk wa wk)) := by
      rw [hV]
      exact nrow_set (nrow_set (nrow_set hHeld2 (p := ⟨w.heap.size, 0, none⟩) (by show g5 ≠ w.heap.size; omega) _) (p := ⟨w.heap.size, 1, none⟩) (by show g5 ≠ w.heap.size; omega) _) (p := ⟨w.heap.size, 2, none⟩) (by show g5 ≠ w.heap.size; omega) _
    have HV := Lib.hid hV
    clear hV r1 r2 r3
    refine take_call (i := 5) rfl (by kernel_rfl) (fun K2 hK => ?_)
    go_simp
    rw [← HV.out]
    refine hK.out _ _ hR5 (fun hHeld => ?_)
    clear hK hHeld2 hR5 HV o0 o1 o2 z0 z1 z2 hol
    refine take_do (i := 6) (v := (.int .i64 pl)) rfl (by kernel_rfl) (by kernel_rfl) (by kernel_rfl) (fun _ _ _ h => h) (by rfl) ?_ (by assumption) ?_
    · intro w hSw
      go_simp
    simp only [Act.put, List.setIfInBounds_toArray, List.set_cons_zero, List.set_cons_succ]
    refine take_do (i := 7) (v := (.slice sa m sc)) rfl (by kernel_rfl) (by kernel_rfl) (by kernel_rfl) (fun _ _ _ h => h) (by rfl) ?_ (by assumption) ?_
    · intro w hSw
      go_simp
    simp only [Act.put, List.setIfInBounds_toArray, List.set_cons_zero, List.set_cons_succ]
    refine wpAnyH_done (by kernel_rfl) ?_ _
    clear hHeld
    obtain ⟨⟨c0, c1, c2⟩, _⟩ := rowN3 HRV.out
    go_wp2_with fail
    obtain ⟨a9, c9, f9, e9, h9⟩ := HOV.out
    injection e9 with ea _ ec
    subst ea ec
    exact bodyPost_ret (v := .tuple #[plV n la lk fa fk wa wk, .int .i64 pl, .slice sa m sc]) (by simp only [results, Tryz.results23]; simp [go_sem, c0, c1, c2]) rfl ⟨⟨n, la, lk, fa, fk, wa, wk, pl, sa, m, sc, f9, rfl, HPV.out, HSM.out, HFN.out, by simpa using h9, hzl, fun e => (HNIL.out e).2⟩, HBV.out⟩
end Go.Proofs.YtipmjobhegpdgaaGreatDoor
namespace Go.Proofs.YtipmjobhegpdgaaGreatDoor
open Go Go.RowKit Go.Deep

set_option maxRecDepth 100000 in
set_option maxHeartbeats 8000000 in
theorem shutLeast_law (w : World) (ca : Option Addr) (cl cp : Nat) (hc : Bytes ca cl w) (_hu : cl ≤ 9223372036854775807) (hg : Et w) :
    Calls Tryz.prog 5 #[.slice ca cl cp] w fun e w' => e = .returned (.bool true) ∧ Below w.heap.size w w' := by
  have HC := Lib.hid hc
  have HG := Lib.hid hg
  clear hc hg
  by_cases h1 : (1048576 : Int) < (cl : Int)
  · go_enter Tryz.func5, Tryz.ntmps5
    go_wp2_with fail
    go_ret
    exact ⟨rfl, Below.refl _ _⟩
  go_enter Tryz.func5, Tryz.ntmps5
  go_wp2_with fail
  refine (drawShut_any ca cl cp _ HC.out (by omega)).mono ?_
  rintro e w1 ⟨⟨n, la, lk, fa, fk, wa, wk, pl, sa, m, sc, f, rfl, hP, hsm, hfn, hsh, hm1, hsc⟩, hb1⟩
  obtain ⟨gp, hgp⟩ : ∃ gp, gp = w1.heap.size := ⟨_, rfl⟩
  obtain ⟨W2, hW2⟩ : ∃ W2, W2 = w1.alloc (.cells #[.slice la n.rn lk, .slice fa n.sn fk, .slice wa n.hn wk] 32) := ⟨_, rfl⟩
  have hb2 : Below w1.heap.size w1 W2 := by rw [hW2]; exact nbel_alloc _ _
  have HB2 : Hid (Below w.heap.size w W2) := hb1.trans (hb2.mono hb1.size)
  have HP := Lib.hid (hP.below hb2)
  have HSH := Lib.hid (hsh.below hb2)
  have HSM := Lib.hid hsm
  have HFN := Lib.hid hfn
  have HSC := Lib.hid hsc
  have HRP : Hid (W2.rowIs gp 32 3 (rowN (plL n la lk fa fk wa wk))) := by show World.rowIs _ _ _ _ _; rw [hW2, hgp]; exact rowN_alloc _ _ _
  have HW2 := Lib.hid hW2
  clear hW2 hP hsh hb1 hb2 hsm hfn hsc
  go_wp2_with fail
  rw [← HW2.out, ← hgp]
  clear hgp
  refine (specShut_any n la lk fa fk wa wk pl sa m sc f _ HP.out HSM.out HSH.out (by omega)).mono ?_
  rintro e w3 ⟨rfl, hb⟩
  have HB3 : Hid (Below w.heap.size w w3) := HB2.out.trans (hb.mono HB2.out.size)
  replace HRP := Lib.hid (nrow_below HRP.out hb)
  replace HP := Lib.hid (HP.out.below hb)
  replace HSH := Lib.hid (HSH.out.below hb)
  clear hb HB2 HW2
  by_cases c : Pl.ShutOk n pl m f
  case neg =>
    rw [dB_ff c]
    have HNO := Lib.hid c
    clear c
    go_wp2_with fail
    refine wp_region_held_drew (S := fun V => Below w3.heap.size w3 V) (by kernel_rfl) (Below.refl _ _).drew (fun hHeld => ?_)
    obtain ⟨Z, hZ⟩ : ∃ Z, Z = w3.drew := ⟨_, rfl⟩
    rw [← hZ] at hHeld ⊢
    clear hZ
    refine take_do (i := 0) (v := (plV n la lk fa fk wa wk)) rfl (by kernel_rfl) (by kernel_rfl) (by kernel_rfl) (fun _ _ _ h => h) (by rfl) ?_ (by assumption) ?_
    · intro w hSw
      obtain ⟨⟨x0, x1, x2⟩, _⟩ := rowN3 (nrow_below HRP.out hSw)
      go_simp
    simp only [Act.put, List.setIfInBounds_toArray, List.set_cons_zero, List.set_cons_succ]
    refine take_do (i := 1) (v := (.int .i64 pl)) rfl (by kernel_rfl) (by kernel_rfl) (by kernel_rfl) (fun _ _ _ h => h) (by rfl) ?_ (by assumption) ?_
    · intro w hSw
      go_simp
    simp only [Act.put, List.setIfInBounds_toArray, List.set_cons_zero, List.set_cons_succ]
    refine take_do (i := 2) (v := (.slice sa m sc)) rfl (by kernel_rfl) (by kernel_rfl) (by kernel_rfl) (fun _ _ _ h => h) (by rfl) ?_ (by assumption) ?_
    · intro w hSw
      go_simp
    simp only [Act.put, List.setIfInBounds_toArray, List.set_cons_zero, List.set_cons_succ]
    refine take_call (i := 3) rfl (by kernel_rfl) (fun K2 hK => ?_)
    go_simp
    refine (mcopy_any sa m sc f _ (HSH.out.below hHeld) hm1 HSC.out).mono ?_
    rintro e wq ⟨⟨g1, g1c, rfl, _, hcp⟩, hb⟩
    have HCg1 := Lib.hid hcp
    clear hcp
    have hbc := hb
    go_wp2_with fail
    refine hK.out _ _ (hHeld.trans (hb.mono hHeld.size)) (fun hHeld2 => ?_)
    clear hK hHeld hb hbc
    have hHeld := hHeld2
    clear hHeld2
    refine take_call (i := 4) rfl (by kernel_rfl) (fun K2 hK => ?_)
    go_simp
    refine (implShut_any n la lk fa fk wa wk pl (some ⟨g1, 0, none⟩) m g1c f _ (HP.out.below hHeld) HSM.out HCg1.out (by omega) HFN.out).mono ?_
    rintro e wq ⟨rfl, hb⟩
    rw [dB_ff HNO.out]
    go_wp2_with fail
    refine hK.out _ _ (hHeld.trans (hb.mono hHeld.size)) (fun hHeld2 => ?_)
    clear hK hHeld hb
    have hHeld := hHeld2
    clear hHeld2
    refine take_do (i := 5) (v := (.bool true)) rfl (by kernel_rfl) (by kernel_rfl) (by kernel_rfl) (fun _ _ _ h => h) (by rfl) ?_ (by assumption) ?_
    · intro w hSw
      go_simp
    simp only [Act.put, List.setIfInBounds_toArray, List.set_cons_zero, List.set_cons_succ]
    refine take_do (i := 6) (v := (.bool true)) rfl (by kernel_rfl) (by kernel_rfl) (by kernel_rfl) (fun _ _ _ h => h) (by rfl) ?_ (by assumption) ?_
    · intro w hSw
      go_simp
    simp only [Act.put, List.setIfInBounds_toArray, List.set_cons_zero, List.set_cons_succ]
    refine wpAnyH_done (by kernel_rfl) ?_ _
    have HB4 : Hid (Below w.heap.size w _) := HB3.out.trans (hHeld.mono HB3.out.size)
    clear hHeld
    go_wp2_with fail
    go_ret
    exact ⟨rfl, HB4.out⟩
  rw [dB_tt c]
  obtain ⟨t, rfl⟩ : ∃ t : Nat, pl = (t : Int) := by obtain ⟨_, v, e, _⟩ := c; exact ⟨v, e⟩
  have HOK := Lib.hid c
  clear c
  obtain ⟨⟨p0, p1, p2⟩, _⟩ := rowN3 HRP.out
  go_wp2_with fail
  refine (implLeast_any n la lk fa fk wa wk (t : Int) _ HP.out HSM.out HFN.out (HG.out.below HB3.out)).mono ?_
  rintro e w4 ⟨⟨v0, rfl, hO⟩, hb⟩
  obtain ⟨ra, rc, rfl, hL⟩ := sls_own hO
  rw [Fl.least_code HOK.out]
  have HLE := Lib.hid (Fl.least_len HOK.out)
  have HLD := Lib.hid (Fl.least_dry HOK.out)
  have hl1 : (Fl.lrows n (t : Int)).length ≤ 1000 := Nat.le_trans (Fl.least_len HOK.out) hm1
  have hlf : snls (Fl.lrows n (t : Int)) = (fun j => (((Fl.lrows n (t : Int)).getD j 0 : Nat) : Int)) := rfl
  rw [hlf] at hL
  obtain ⟨K, hK0⟩ : ∃ K, K = (Fl.lrows n (t : Int)).length := ⟨_, rfl⟩
  obtain ⟨fl, hfl⟩ : ∃ fl, fl = (fun j => (((Fl.lrows n (t : Int)).getD j 0 : Nat) : Int)) := ⟨_, rfl⟩
  obtain ⟨hm, hhm⟩ : ∃ hm, hm = Fl.lhomes n (t : Int) := ⟨_, rfl⟩
  rw [← hfl] at hL HLD
  rw [← hK0] at hL hl1 HLE HLD ⊢
  rw [← hhm]
  obtain ⟨gx, hgx⟩ : ∃ gx, gx = w4.heap.size := ⟨_, rfl⟩
  obtain ⟨W5, hW5⟩ : ∃ W5, W5 = w4.alloc (.cells #[.slice ra K rc, .int .i64 hm, .int .i64 0] 28) := ⟨_, rfl⟩
  have hb5 : Below w4.heap.size w4 W5 := by rw [hW5]; exact nbel_alloc _ _
  have HRX : Hid (W5.rowIs gx 28 3 (rowN (shL (.slice ra K rc) hm 0))) := by show World.rowIs _ _ _ _ _; rw [hW5, hgx]; exact rowN_alloc _ _ _
  have hb45 := hb.trans (hb5.mono hb.size)
  replace HRP := Lib.hid (nrow_below HRP.out hb45)
  replace HP := Lib.hid (HP.out.below hb45)
  replace HSH := Lib.hid (HSH.out.below hb45)
  have HB5 : Hid (Below w.heap.size w W5) := HB3.out.trans (hb45.mono HB3.out.size)
  have HL := Lib.hid (hL.below hb5)
  have HRN : Hid (ra = none → rc = 0) := fun e => by
    rcases HL.out with h | ⟨g, e2, _⟩
    · exact h.2.2
    · rw [e2] at e; cases e
  have HW5 := Lib.hid hW5
  clear hO hL hb hb5 hb45 hW5 hK0 hfl hhm hlf HB3 p0 p1 p2
  obtain ⟨⟨x0, x1, x2⟩, _⟩ := rowN3 HRX.out
  rw [HW5.out, hgx] at x0 x1 x2
  go_wp2_with fail
  rw [← HW5.out, ← hgx]
  clear HW5 hgx x0 x1 x2
  have hle : ¬ (m : Int) < (K : Int) := by have := HLE.out; omega
  refine wp_region_held_drew (S := fun V => Below W5.heap.size W5 V) (by kernel_rfl) (Below.refl _ _).drew (fun hHeld => ?_)
  obtain ⟨Z, hZ⟩ : ∃ Z, Z = W5.drew := ⟨_, rfl⟩
  rw [← hZ] at hHeld ⊢
  clear hZ
  refine take_do (i := 0) (v := (.pointer (some ⟨gx, 2, none⟩))) rfl (by kernel_rfl) (by kernel_rfl) (by kernel_rfl) (fun _ _ _ h => h) (by rfl) ?_ (by assumption) ?_
  · intro w hSw
    go_simp
  simp only [Act.put, List.setIfInBounds_toArray, List.set_cons_zero, List.set_cons_succ]
  refine take_do (i := 1) (v := (.int .i64 0)) rfl (by kernel_rfl) (by kernel_rfl) (by kernel_rfl) (fun _ _ _ h => h) (by rfl) ?_ (by assumption) ?_
  · intro w hSw
    obtain ⟨⟨x0, x1, x2⟩, _⟩ := rowN3 (nrow_below HRX.out hSw)
    go_simp
  simp only [Act.put, List.setIfInBounds_toArray, List.set_cons_zero, List.set_cons_succ]
  refine take_do (i := 2) (v := (.bool false)) rfl (by kernel_rfl) (by kernel_rfl) (by kernel_rfl) (fun _ _ _ h => h) (by rfl) ?_ (by assumption) ?_
  · intro w hSw
    go_simp
  simp only [Act.put, List.setIfInBounds_toArray, List.set_cons_zero, List.set_cons_succ]
  refine take_do (i := 3) (v := (.bool false)) rfl (by kernel_rfl) (by kernel_rfl) (by kernel_rfl) (fun _ _ _ h => h) (by rfl) ?_ (by assumption) ?_
  · intro w hSw
    go_simp
  simp only [Act.put, List.setIfInBounds_toArray, List.set_cons_zero, List.set_cons_succ]
  refine take_do (i := 4) (v := (.pointer (some ⟨gx, 0, none⟩))) rfl (by kernel_rfl) (by kernel_rfl) (by kernel_rfl) (fun _ _ _ h => h) (by rfl) ?_ (by assumption) ?_
  · intro w hSw
    go_simp
  simp only [Act.put, List.setIfInBounds_toArray, List.set_cons_zero, List.set_cons_succ]
  refine take_do (i := 5) (v := (.slice ra K rc)) rfl (by kernel_rfl) (by kernel_rfl) (by kernel_rfl) (fun _ _ _ h => h) (by rfl) ?_ (by assumption) ?_
  · intro w hSw
    obtain ⟨⟨x0, x1, x2⟩, _⟩ := rowN3 (nrow_below HRX.out hSw)
    go_simp
  simp only [Act.put, List.setIfInBounds_toArray, List.set_cons_zero, List.set_cons_succ]
  refine take_do (i := 6) (v := (.int .i64 (K : Nat))) rfl (by kernel_rfl) (by kernel_rfl) (by kernel_rfl) (fun _ _ _ h => h) (by rfl) ?_ (by assumption) ?_
  · intro w hSw
    go_simp
  simp only [Act.put, List.setIfInBounds_toArray, List.set_cons_zero, List.set_cons_succ]
  refine take_do (i := 7) (v := (.slice sa m sc)) rfl (by kernel_rfl) (by kernel_rfl) (by kernel_rfl) (fun _ _ _ h => h) (by rfl) ?_ (by assumption) ?_
  · intro w hSw
    go_simp
  simp only [Act.put, List.setIfInBounds_toArray, List.set_cons_zero, List.set_cons_succ]
  refine take_do (i := 8) (v := (.int .i64 (m : Nat))) rfl (by kernel_rfl) (by kernel_rfl) (by kernel_rfl) (fun _ _ _ h => h) (by rfl) ?_ (by assumption) ?_
  · intro w hSw
    go_simp
  simp only [Act.put, List.setIfInBounds_toArray, List.set_cons_zero, List.set_cons_succ]
  refine take_do (i := 9) (v := (.bool false)) rfl (by kernel_rfl) (by kernel_rfl) (by kernel_rfl) (fun _ _ _ h => h) (by rfl) ?_ (by assumption) ?_
  · intro w hSw
    go_simp
  simp only [Act.put, List.setIfInBounds_toArray, List.set_cons_zero, List.set_cons_succ]
  refine take_do (i := 10) (v := (.bool false)) rfl (by kernel_rfl) (by kernel_rfl) (by kernel_rfl) (fun _ _ _ h => h) (by rfl) ?_ (by assumption) ?_
  · intro w hSw
    go_simp
  simp only [Act.put, List.setIfInBounds_toArray, List.set_cons_zero, List.set_cons_succ]
  refine take_do (i := 11) (v := (.bool false)) rfl (by kernel_rfl) (by kernel_rfl) (by kernel_rfl) (fun _ _ _ h => h) (by rfl) ?_ (by assumption) ?_
  · intro w hSw
    go_simp
  simp only [Act.put, List.setIfInBounds_toArray, List.set_cons_zero, List.set_cons_succ]
  refine take_do (i := 12) (v := (plV n la lk fa fk wa wk)) rfl (by kernel_rfl) (by kernel_rfl) (by kernel_rfl) (fun _ _ _ h => h) (by rfl) ?_ (by assumption) ?_
  · intro w hSw
    obtain ⟨⟨x0, x1, x2⟩, _⟩ := rowN3 (nrow_below HRP.out hSw)
    go_simp
  simp only [Act.put, List.setIfInBounds_toArray, List.set_cons_zero, List.set_cons_succ]
  refine take_do (i := 13) (v := (.int .i64 (t : Nat))) rfl (by kernel_rfl) (by kernel_rfl) (by kernel_rfl) (fun _ _ _ h => h) (by rfl) ?_ (by assumption) ?_
  · intro w hSw
    go_simp
  simp only [Act.put, List.setIfInBounds_toArray, List.set_cons_zero, List.set_cons_succ]
  refine take_do (i := 14) (v := (.slice sa m sc)) rfl (by kernel_rfl) (by kernel_rfl) (by kernel_rfl) (fun _ _ _ h => h) (by rfl) ?_ (by assumption) ?_
  · intro w hSw
    go_simp
  simp only [Act.put, List.setIfInBounds_toArray, List.set_cons_zero, List.set_cons_succ]
  refine take_call (i := 15) rfl (by kernel_rfl) (fun K2 hK => ?_)
  go_simp
  refine (mcopy_any sa m sc f _ (HSH.out.below hHeld) hm1 HSC.out).mono ?_
  rintro e wq ⟨⟨g1, g1c, rfl, _, hcp⟩, hb⟩
  have HCg1 := Lib.hid hcp
  clear hcp
  have hbc := hb
  go_wp2_with fail
  refine hK.out _ _ (hHeld.trans (hb.mono hHeld.size)) (fun hHeld2 => ?_)
  clear hK hHeld hb hbc
  have hHeld := hHeld2
  clear hHeld2
  refine take_call (i := 16) rfl (by kernel_rfl) (fun K2 hK => ?_)
  go_simp
  refine (implShut_any n la lk fa fk wa wk (t : Int) (some ⟨g1, 0, none⟩) m g1c f _ (HP.out.below hHeld) HSM.out HCg1.out (by omega) HFN.out).mono ?_
  rintro e wq6 ⟨rfl, hb⟩
  rw [dB_tt HOK.out]
  go_wp2_with fail
  refine hK.out _ _ (hHeld.trans (hb.mono hHeld.size)) (fun hHeld2 => ?_)
  clear hK hHeld hb
  have hHeld := hHeld2
  clear hHeld2
  refine take_do (i := 17) (v := (.bool false)) rfl (by kernel_rfl) (by kernel_rfl) (by kernel_rfl) (fun _ _ _ h => h) (by rfl) ?_ (by assumption) ?_
  · intro w hSw
    go_simp
  simp only [Act.put, List.setIfInBounds_toArray, List.set_cons_zero, List.set_cons_succ]
  refine take_do (i := 18) (v := (.bool false)) rfl (by kernel_rfl) (by kernel_rfl) (by kernel_rfl) (fun _ _ _ h => h) (by rfl) ?_ (by assumption) ?_
  · intro w hSw
    go_simp
  simp only [Act.put, List.setIfInBounds_toArray, List.set_cons_zero, List.set_cons_succ]
  refine wpAnyH_done (by kernel_rfl) ?_ _
  replace HRP := Lib.hid (nrow_below HRP.out hHeld)
  replace HRX := Lib.hid (nrow_below HRX.out hHeld)
  replace HP := Lib.hid (HP.out.below hHeld)
  replace HSH := Lib.hid (HSH.out.below hHeld)
  replace HL := Lib.hid (HL.out.below hHeld)
  replace HB5 := Lib.hid (HB5.out.trans (hHeld.mono HB5.out.size))
  clear hHeld HCg1
  by_cases hlt : K < m
  · have hltz : (K : Int) < (m : Int) := by omega
    go_wp2_with fail
    refine wp_region_held_drew (S := fun V => Below wq6.heap.size wq6 V) (by kernel_rfl) (Below.refl _ _).drew (fun hHeld => ?_)
    obtain ⟨Z, hZ⟩ : ∃ Z, Z = wq6.drew := ⟨_, rfl⟩
    rw [← hZ] at hHeld ⊢
    clear hZ
    refine take_do (i := 0) (v := (.pointer (some ⟨gx, 0, none⟩))) rfl (by kernel_rfl) (by kernel_rfl) (by kernel_rfl) (fun _ _ _ h => h) (by rfl) ?_ (by assumption) ?_
    · intro w hSw
      go_simp
    simp only [Act.put, List.setIfInBounds_toArray, List.set_cons_zero, List.set_cons_succ]
    refine take_do (i := 1) (v := (.slice ra K rc)) rfl (by kernel_rfl) (by kernel_rfl) (by kernel_rfl) (fun _ _ _ h => h) (by rfl) ?_ (by assumption) ?_
    · intro w hSw
      obtain ⟨⟨x0, x1, x2⟩, _⟩ := rowN3 (nrow_below HRX.out hSw)
      go_simp
    simp only [Act.put, List.setIfInBounds_toArray, List.set_cons_zero, List.set_cons_succ]
    refine take_do (i := 2) (v := (.int .i64 (K : Nat))) rfl (by kernel_rfl) (by kernel_rfl) (by kernel_rfl) (fun _ _ _ h => h) (by rfl) ?_ (by assumption) ?_
    · intro w hSw
      go_simp
    simp only [Act.put, List.setIfInBounds_toArray, List.set_cons_zero, List.set_cons_succ]
    refine take_do (i := 3) (v := (.slice sa m sc)) rfl (by kernel_rfl) (by kernel_rfl) (by kernel_rfl) (fun _ _ _ h => h) (by rfl) ?_ (by assumption) ?_
    · intro w hSw
      go_simp
    simp only [Act.put, List.setIfInBounds_toArray, List.set_cons_zero, List.set_cons_succ]
    refine take_do (i := 4) (v := (.int .i64 (m : Nat))) rfl (by kernel_rfl) (by kernel_rfl) (by kernel_rfl) (fun _ _ _ h => h) (by rfl) ?_ (by assumption) ?_
    · intro w hSw
      go_simp
    simp only [Act.put, List.setIfInBounds_toArray, List.set_cons_zero, List.set_cons_succ]
    refine take_do (i := 5) (v := (.bool true)) rfl (by kernel_rfl) (by kernel_rfl) (by kernel_rfl) (fun _ _ _ h => h) (by rfl) ?_ (by assumption) ?_
    · intro w hSw
      go_simp
    simp only [Act.put, List.setIfInBounds_toArray, List.set_cons_zero, List.set_cons_succ]
    refine take_do (i := 6) (v := (.bool true)) rfl (by kernel_rfl) (by kernel_rfl) (by kernel_rfl) (fun _ _ _ h => h) (by rfl) ?_ (by assumption) ?_
    · intro w hSw
      go_simp
    simp only [Act.put, List.setIfInBounds_toArray, List.set_cons_zero, List.set_cons_succ]
    refine take_skip (i := 7) rfl (by kernel_rfl) (by kernel_rfl) (by kernel_rfl) (fun _ _ _ h => h) (by rfl) (by assumption) ?_
    simp only [Act.put, List.setIfInBounds_toArray, List.set_cons_zero, List.set_cons_succ]
    refine take_skip (i := 8) rfl (by kernel_rfl) (by kernel_rfl) (by kernel_rfl) (fun _ _ _ h => h) (by rfl) (by assumption) ?_
    simp only [Act.put, List.setIfInBounds_toArray, List.set_cons_zero, List.set_cons_succ]
    refine take_skip (i := 9) rfl (by kernel_rfl) (by kernel_rfl) (by kernel_rfl) (fun _ _ _ h => h) (by rfl) (by assumption) ?_
    simp only [Act.put, List.setIfInBounds_toArray, List.set_cons_zero, List.set_cons_succ]
    refine take_skip (i := 10) rfl (by kernel_rfl) (by kernel_rfl) (by kernel_rfl) (fun _ _ _ h => h) (by rfl) (by assumption) ?_
    simp only [Act.put, List.setIfInBounds_toArray, List.set_cons_zero, List.set_cons_succ]
    refine take_skip (i := 11) rfl (by kernel_rfl) (by kernel_rfl) (by kernel_rfl) (fun _ _ _ h => h) (by rfl) (by assumption) ?_
    simp only [Act.put, List.setIfInBounds_toArray, List.set_cons_zero, List.set_cons_succ]
    refine take_skip (i := 12) rfl (by kernel_rfl) (by kernel_rfl) (by kernel_rfl) (fun _ _ _ h => h) (by rfl) (by assumption) ?_
    simp only [Act.put, List.setIfInBounds_toArray, List.set_cons_zero, List.set_cons_succ]
    refine take_skip (i := 13) rfl (by kernel_rfl) (by kernel_rfl) (by kernel_rfl) (fun _ _ _ h => h) (by rfl) (by assumption) ?_
    simp only [Act.put, List.setIfInBounds_toArray, List.set_cons_zero, List.set_cons_succ]
    refine take_skip (i := 14) rfl (by kernel_rfl) (by kernel_rfl) (by kernel_rfl) (fun _ _ _ h => h) (by rfl) (by assumption) ?_
    simp only [Act.put, List.setIfInBounds_toArray, List.set_cons_zero, List.set_cons_succ]
    refine take_skip (i := 15) rfl (by kernel_rfl) (by kernel_rfl) (by kernel_rfl) (fun _ _ _ h => h) (by rfl) (by assumption) ?_
    simp only [Act.put, List.setIfInBounds_toArray, List.set_cons_zero, List.set_cons_succ]
    refine take_skip (i := 16) rfl (by kernel_rfl) (by kernel_rfl) (by kernel_rfl) (fun _ _ _ h => h) (by rfl) (by assumption) ?_
    simp only [Act.put, List.setIfInBounds_toArray, List.set_cons_zero, List.set_cons_succ]
    refine take_skip (i := 17) rfl (by kernel_rfl) (by kernel_rfl) (by kernel_rfl) (fun _ _ _ h => h) (by rfl) (by assumption) ?_
    simp only [Act.put, List.setIfInBounds_toArray, List.set_cons_zero, List.set_cons_succ]
    refine take_do (i := 18) (v := (.bool true)) rfl (by kernel_rfl) (by kernel_rfl) (by kernel_rfl) (fun _ _ _ h => h) (by rfl) ?_ (by assumption) ?_
    · intro w hSw
      go_simp
    simp only [Act.put, List.setIfInBounds_toArray, List.set_cons_zero, List.set_cons_succ]
    refine take_do (i := 19) (v := (.bool true)) rfl (by kernel_rfl) (by kernel_rfl) (by kernel_rfl) (fun _ _ _ h => h) (by rfl) ?_ (by assumption) ?_
    · intro w hSw
      go_simp
    simp only [Act.put, List.setIfInBounds_toArray, List.set_cons_zero, List.set_cons_succ]
    refine wpAnyH_done (by kernel_rfl) ?_ _
    have HB6 := Lib.hid (HB5.out.trans (hHeld.mono HB5.out.size))
    clear hHeld
    go_wp2_with fail
    go_ret
    exact ⟨rfl, HB6.out⟩
  have hltz : ¬ (K : Int) < (m : Int) := by omega
  have HD : Hid ((Pl.dry n K fl).length ≤ (Pl.dry n m f).length) := HLD.out (by omega)
  go_wp2_with fail
  refine wp_region_held_drew (S := fun V => Below wq6.heap.size wq6 V) (by kernel_rfl) (Below.refl _ _).drew (fun hHeld => ?_)
  obtain ⟨Z, hZ⟩ : ∃ Z, Z = wq6.drew := ⟨_, rfl⟩
  rw [← hZ] at hHeld ⊢
  clear hZ
  refine take_do (i := 0) (v := (.pointer (some ⟨gx, 0, none⟩))) rfl (by kernel_rfl) (by kernel_rfl) (by kernel_rfl) (fun _ _ _ h => h) (by rfl) ?_ (by assumption) ?_
  · intro w hSw
    go_simp
  simp only [Act.put, List.setIfInBounds_toArray, List.set_cons_zero, List.set_cons_succ]
  refine take_do (i := 1) (v := (.slice ra K rc)) rfl (by kernel_rfl) (by kernel_rfl) (by kernel_rfl) (fun _ _ _ h => h) (by rfl) ?_ (by assumption) ?_
  · intro w hSw
    obtain ⟨⟨x0, x1, x2⟩, _⟩ := rowN3 (nrow_below HRX.out hSw)
    go_simp
  simp only [Act.put, List.setIfInBounds_toArray, List.set_cons_zero, List.set_cons_succ]
  refine take_do (i := 2) (v := (.int .i64 (K : Nat))) rfl (by kernel_rfl) (by kernel_rfl) (by kernel_rfl) (fun _ _ _ h => h) (by rfl) ?_ (by assumption) ?_
  · intro w hSw
    go_simp
  simp only [Act.put, List.setIfInBounds_toArray, List.set_cons_zero, List.set_cons_succ]
  refine take_do (i := 3) (v := (.slice sa m sc)) rfl (by kernel_rfl) (by kernel_rfl) (by kernel_rfl) (fun _ _ _ h => h) (by rfl) ?_ (by assumption) ?_
  · intro w hSw
    go_simp
  simp only [Act.put, List.setIfInBounds_toArray, List.set_cons_zero, List.set_cons_succ]
  refine take_do (i := 4) (v := (.int .i64 (m : Nat))) rfl (by kernel_rfl) (by kernel_rfl) (by kernel_rfl) (fun _ _ _ h => h) (by rfl) ?_ (by assumption) ?_
  · intro w hSw
    go_simp
  simp only [Act.put, List.setIfInBounds_toArray, List.set_cons_zero, List.set_cons_succ]
  refine take_do (i := 5) (v := (.bool false)) rfl (by kernel_rfl) (by kernel_rfl) (by kernel_rfl) (fun _ _ _ h => h) (by rfl) ?_ (by assumption) ?_
  · intro w hSw
    go_simp
  simp only [Act.put, List.setIfInBounds_toArray, List.set_cons_zero, List.set_cons_succ]
  refine take_do (i := 6) (v := (.bool false)) rfl (by kernel_rfl) (by kernel_rfl) (by kernel_rfl) (fun _ _ _ h => h) (by rfl) ?_ (by assumption) ?_
  · intro w hSw
    go_simp
  simp only [Act.put, List.setIfInBounds_toArray, List.set_cons_zero, List.set_cons_succ]
  refine take_do (i := 7) (v := (plV n la lk fa fk wa wk)) rfl (by kernel_rfl) (by kernel_rfl) (by kernel_rfl) (fun _ _ _ h => h) (by rfl) ?_ (by assumption) ?_
  · intro w hSw
    obtain ⟨⟨x0, x1, x2⟩, _⟩ := rowN3 (nrow_below HRP.out hSw)
    go_simp
  simp only [Act.put, List.setIfInBounds_toArray, List.set_cons_zero, List.set_cons_succ]
  refine take_do (i := 8) (v := (.pointer (some ⟨gx, 0, none⟩))) rfl (by kernel_rfl) (by kernel_rfl) (by kernel_rfl) (fun _ _ _ h => h) (by rfl) ?_ (by assumption) ?_
  · intro w hSw
    go_simp
  simp only [Act.put, List.setIfInBounds_toArray, List.set_cons_zero, List.set_cons_succ]
  refine take_do (i := 9) (v := (.slice ra K rc)) rfl (by kernel_rfl) (by kernel_rfl) (by kernel_rfl) (fun _ _ _ h => h) (by rfl) ?_ (by assumption) ?_
  · intro w hSw
    obtain ⟨⟨x0, x1, x2⟩, _⟩ := rowN3 (nrow_below HRX.out hSw)
    go_simp
  simp only [Act.put, List.setIfInBounds_toArray, List.set_cons_zero, List.set_cons_succ]
  refine take_do (i := 13) (v := (plV n la lk fa fk wa wk)) rfl (by kernel_rfl) (by kernel_rfl) (by kernel_rfl) (fun _ _ _ h => h) (by rfl) ?_ (by assumption) ?_
  · intro w hSw
    obtain ⟨⟨x0, x1, x2⟩, _⟩ := rowN3 (nrow_below HRP.out hSw)
    go_simp
  simp only [Act.put, List.setIfInBounds_toArray, List.set_cons_zero, List.set_cons_succ]
  refine take_do (i := 14) (v := (.slice sa m sc)) rfl (by kernel_rfl) (by kernel_rfl) (by kernel_rfl) (fun _ _ _ h => h) (by rfl) ?_ (by assumption) ?_
  · intro w hSw
    go_simp
  simp only [Act.put, List.setIfInBounds_toArray, List.set_cons_zero, List.set_cons_succ]
  refine take_call (i := 10) rfl (by kernel_rfl) (fun K2 hK => ?_)
  go_simp
  refine (mcopy_any ra K rc fl _ (HL.out.at_.below hHeld) hl1 HRN.out).mono ?_
  rintro e wq ⟨⟨g1, g1c, rfl, _, hcp⟩, hb⟩
  have HCg1 := Lib.hid hcp
  clear hcp
  have hbc := hb
  go_wp2_with fail
  refine hK.out _ _ (hHeld.trans (hb.mono hHeld.size)) (fun hHeld2 => ?_)
  clear hK hHeld hb hbc
  have hHeld := hHeld2
  clear hHeld2
  refine take_call (i := 11) rfl (by kernel_rfl) (fun K2 hK => ?_)
  go_simp
  refine (implDry_any n la lk fa fk wa wk (some ⟨g1, 0, none⟩) K g1c fl _ (HP.out.below hHeld) HSM.out HCg1.out (by omega) HFN.out).mono ?_
  rintro e wq ⟨⟨v1, rfl, hO⟩, hb⟩
  obtain ⟨d1, e1, rfl, _⟩ := sls_own hO
  clear hO
  obtain ⟨D1, hD1⟩ : ∃ D1, D1 = (Pl.dry n K fl).length := ⟨_, rfl⟩
  rw [← hD1] at HD ⊢
  clear hD1
  go_wp2_with fail
  refine hK.out _ _ (hHeld.trans (hb.mono hHeld.size)) (fun hHeld2 => ?_)
  clear hK hHeld hb
  have hHeld := hHeld2
  clear hHeld2
  refine take_do (i := 12) (v := (.int .i64 (D1 : Nat))) rfl (by kernel_rfl) (by kernel_rfl) (by kernel_rfl) (fun _ _ _ h => h) (by rfl) ?_ (by assumption) ?_
  · intro w hSw
    go_simp
  simp only [Act.put, List.setIfInBounds_toArray, List.set_cons_zero, List.set_cons_succ]
  refine take_call (i := 15) rfl (by kernel_rfl) (fun K2 hK => ?_)
  go_simp
  refine (specDry_any n la lk fa fk wa wk sa m sc f _ (HP.out.below hHeld) HSM.out (HSH.out.below hHeld) (by omega)).mono ?_
  rintro e wq ⟨⟨v2, rfl, hO⟩, hb⟩
  obtain ⟨d2, e2, rfl, _⟩ := sls_own hO
  clear hO
  obtain ⟨D2, hD2⟩ : ∃ D2, D2 = (Pl.dry n m f).length := ⟨_, rfl⟩
  rw [← hD2] at HD ⊢
  clear hD2
  go_wp2_with fail
  refine hK.out _ _ (hHeld.trans (hb.mono hHeld.size)) (fun hHeld2 => ?_)
  clear hK hHeld hb
  have hHeld := hHeld2
  clear hHeld2
  have hdd : (D1 : Int) ≤ (D2 : Int) := by have := HD.out; omega
  refine take_do (i := 16) (v := (.int .i64 (D2 : Nat))) rfl (by kernel_rfl) (by kernel_rfl) (by kernel_rfl) (fun _ _ _ h => h) (by rfl) ?_ (by assumption) ?_
  · intro w hSw
    go_simp
  simp only [Act.put, List.setIfInBounds_toArray, List.set_cons_zero, List.set_cons_succ]
  refine take_do (i := 17) (v := (.bool true)) rfl (by kernel_rfl) (by kernel_rfl) (by kernel_rfl) (fun _ _ _ h => h) (by rfl) ?_ (by assumption) ?_
  · intro w hSw
    go_simp
  simp only [Act.put, List.setIfInBounds_toArray, List.set_cons_zero, List.set_cons_succ]
  refine take_do (i := 18) (v := (.bool true)) rfl (by kernel_rfl) (by kernel_rfl) (by kernel_rfl) (fun _ _ _ h => h) (by rfl) ?_ (by assumption) ?_
  · intro w hSw
    go_simp
  simp only [Act.put, List.setIfInBounds_toArray, List.set_cons_zero, List.set_cons_succ]
  refine take_do (i := 19) (v := (.bool true)) rfl (by kernel_rfl) (by kernel_rfl) (by kernel_rfl) (fun _ _ _ h => h) (by rfl) ?_ (by assumption) ?_
  · intro w hSw
    go_simp
  simp only [Act.put, List.setIfInBounds_toArray, List.set_cons_zero, List.set_cons_succ]
  refine wpAnyH_done (by kernel_rfl) ?_ _
  have HB6 := Lib.hid (HB5.out.trans (hHeld.mono HB5.out.size))
  clear hHeld
  go_wp2_with fail
  go_ret
  exact ⟨rfl, HB6.out⟩
end Go.Proofs.YtipmjobhegpdgaaGreatDoor
