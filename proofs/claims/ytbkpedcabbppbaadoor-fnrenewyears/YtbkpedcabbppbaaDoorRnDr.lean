/-
  The draws of lists of numbers, of assets and of budgets.
-/
import Derived.Test.YtbkpedcabbppbaaDoorSource
import Derived.Test.YtbkpedcabbppbaaDoorRnO2
import Derived.Test.YtbkpedcabbppbaaDoorRnY2
namespace Go.Proofs.YtbkpedcabbppbaaDoor
open Go Go.RowKit Go.Deep

theorem d_far {B n size : Nat} {e : TypeId} {v : Value} {xs : List Value} {W W' : World} (h : W.ownsRow B e size v n xs) (hb : ∀ k, v.ownBlock = some k → k < W.heap.size → W'.heap[k]? = W.heap[k]?) : W'.ownsRow B e size v n xs := by
  obtain ⟨h1, h2⟩ := h
  refine ⟨h1, ?_⟩
  rcases h2 with h2 | ⟨g, cap, cur, e1, e2, e3, e4⟩
  · exact Or.inl h2
  · refine Or.inr ⟨g, cap, cur, e1, e2, ?_, e4⟩
    have hlt : g < W.heap.size := by
      rcases Nat.lt_or_ge g W.heap.size with h | h
      · exact h
      · rw [Array.getElem?_eq_none h] at e3; cases e3
    rw [hb g (by rw [e1]; rfl) hlt]; exact e3
theorem d_shape {B n size : Nat} {e : TypeId} {v : Value} {xs : List Value} {W : World} (h : W.ownsRow B e size v n xs) : ∃ a c, v = .slice a n c := by
  rcases h.2 with h | ⟨g, cp, _, e, _⟩
  · exact ⟨none, 0, by rw [h.1, h.2]⟩
  · exact ⟨_, _, e⟩
theorem Src.keep {sb : Nat} {w w' : World} (h : Src sb w) (hb : ∀ k, k ≤ sb → w'.heap[k]? = w.heap[k]?) : Src sb w' := by
  obtain ⟨a, len, cap, at_, mix, size, ⟨c0, c1, c2, c3, f0, f1, f2, f3⟩, h1, h2, h3, h4, h5, h6⟩ := h
  have ce : ∀ o, w'.cell? ⟨sb, o, none⟩ = w.cell? ⟨sb, o, none⟩ := fun o => World.cell?_of_block (hb sb (Nat.le_refl _))
  have fe : ∀ o, w'.frozen? ⟨sb, o, none⟩ = w.frozen? ⟨sb, o, none⟩ := fun o => World.frozen?_of_block (hb sb (Nat.le_refl _))
  refine ⟨a, len, cap, at_, mix, size, ⟨(ce 0).trans c0, (ce 1).trans c1, (ce 2).trans c2, (ce 3).trans c3, (fe 0).trans f0, (fe 1).trans f1, (fe 2).trans f2, (fe 3).trans f3⟩, h1, h2, h3, h4, h5, fun i hi => ?_⟩
  obtain ⟨cb, co, z, e, hne, hc, z0, z1⟩ := h6 i hi
  exact ⟨cb, co, z, e, hne, (World.cell?_of_block (a := ⟨cb, co + i, none⟩) (hb cb (by omega))).trans hc, z0, z1⟩

/-- What the drawing of a list keeps: the list so far, the source, the old memory. -/
def DL (w : World) (sb : Nat) (v : Value) (zs : List Int) (W : World) : Prop := W.ownsRow w.heap.size 2 1 v zs.length (zs.map (Value.int .i64)) ∧ Drew sb w W ∧ sb < w.heap.size
theorem DL.draw {w : World} {sb : Nat} {v : Value} {zs : List Int} {W W' : World} (h : DL w sb v zs W) (hd : Drew sb W W') : DL w sb v zs W' :=
  ⟨d_far h.1 (fun k hk hl => hd.2.2.2.2.2 k hl (by have := (h.1.lt k hk).1; have := h.2.2; omega)), ⟨hd.1, h.2.1.2.trans hd.2⟩, h.2.2⟩
theorem DL.push {w : World} {sb : Nat} {v v' : Value} {zs : List Int} {x : Int} {W W' : World} {o : Obj} (h : DL w sb v zs W) (hg : (W.alloc o).grownBy W' v.ownBlock)
    (hown : W'.ownsRow w.heap.size 2 1 v' (zs.length + 1) (zs.map (Value.int .i64) ++ [.int .i64 x])) : DL w sb v' (zs ++ [x]) W' := by
  have hz := h.2.1.2.size
  have hrow : ∀ k, v.ownBlock = some k → w.heap.size ≤ k := fun k e => (h.1.lt k e).1
  have hk : ∀ k, k < w.heap.size → W'.heap[k]? = W.heap[k]? := fun k hk => by
    rw [hg.block k (by simp; omega) (fun e => by have := hrow k e.symm; omega)]
    exact blk_alloc_lt _ _ _ (by omega)
  refine ⟨by simpa using hown, ⟨h.2.1.1.keep (fun k hk2 => hk k (by have := h.2.2; omega)), ?_⟩, h.2.2⟩
  exact ⟨hg.os.trans h.2.1.2.1, hg.tape.trans h.2.1.2.2.1, hg.output.trans h.2.1.2.2.2.1, by have := hg.size; simp at this; omega, fun k hk1 hk2 => (hk k hk1).trans (h.2.1.2.2.2.2.2 k hk1 hk2)⟩
theorem dl_start {w : World} {sb : Nat} (h : Src sb w) : DL w sb (.slice (some ⟨w.heap.size, 0, none⟩) 0 0) [] (w.alloc (.cells #[] 2)) :=
  ⟨World.ownsRow_made w #[] 0 (Nat.le_refl _) (Nat.zero_le _) rfl, ⟨h.below ((Below.refl _ _).alloc (Nat.le_refl _) _), Chg.of_below ((Below.refl _ _).alloc (Nat.le_refl _) _)⟩, h.lt⟩

theorem DL.alloc {w : World} {sb : Nat} {v : Value} {zs : List Int} {W : World} (h : DL w sb v zs W) (o : Obj) : DL w sb v zs (W.alloc o) := by
  have hb : Below W.heap.size W (W.alloc o) := (Below.refl _ _).alloc (Nat.le_refl _) _
  exact ⟨h.1.alloc _, ⟨h.2.1.1.below hb, h.2.1.2.trans (Chg.of_below hb)⟩, h.2.2⟩
set_option maxHeartbeats 1000000 in
theorem dbetween_any (sb : Nat) (w : World) (h : Src sb w) :
    Calls Tryd.prog 65 #[.pointer (some ⟨sb, 0, none⟩), .int .i64 0, .int .i64 25] w fun e w' => (∃ v, e = .returned (.int .i64 v)) ∧ Drew sb w w' := by
  have H : Hid (Src sb w) := h
  clear h
  go_enter Tryd.func65, Tryd.ntmps65
  go_wp2_with fail
  refine (n_any sb _ _ H.out (by omega)).mono ?_
  rintro e w' ⟨⟨v, rfl, v0, v1, _⟩, hD⟩
  have HD : Hid (Drew sb w w') := hD
  clear hD
  have v2 := v1 (by omega)
  clear v1
  go_wp2_with fail
  go_ret
  exact ⟨⟨_, rfl⟩, HD.out⟩

set_option maxRecDepth 100000 in
set_option maxHeartbeats 2000000 in
theorem dlist_any (sb N : Nat) (hN : N ≤ 1000) (w : World) (h : Src sb w) :
    Calls Tryd.prog 51 #[.pointer (some ⟨sb, 0, none⟩), .int .i64 N, .int .i64 0, .int .i64 25] w fun e w' => ∃ v, e = .returned v ∧ ∃ zs : List Int, zs.length = N ∧ DL w sb v zs w' := by
  have H : Hid (Src sb w) := h
  have hlt := h.lt
  clear h
  obtain ⟨i0, hi, hz0, hz1, hz2⟩ := info_parts roinfo
  go_enter Tryd.func51, Tryd.ntmps51
  go_wp2_with fail
  go_loopw [1, 9] (fun nv ov wr => ∃ (m : Nat) (zs : List Int), nv = .int .i64 m ∧ m ≤ 1000 ∧ Hid (m + zs.length = N) ∧ Hid (DL w sb ov zs wr)) (fun nv _ _ => (intOf nv).toNat)
  case atStart => exact ⟨N, [], rfl, hN, by show _ = _; simp, dl_start H.out⟩
  case round =>
    obtain ⟨m, zs, rfl, m1, hm, hF⟩ := hrel
    obtain ⟨av, cv, rfl⟩ := d_shape hF.out.1
    by_cases hlt2 : 0 < m
    · have hltz : 0 < (m : Int) := by omega
      go_wp2_with fail
      refine (dbetween_any sb _ hF.out.2.1.1).mono ?_
      rintro e w1 ⟨⟨x, rfl⟩, hD⟩
      have HF1 : Hid (DL w sb _ zs w1) := hF.out.draw hD
      clear hD hF
      go_wp2_with (at_builtin; refine wpList_append_own _ rfl _ _ 24 rfl w.heap.size 2 i0 (.int .i64 0) 1 8 Tryd.underlying24 hi hz0 hz1 hz2 rfl (by decide) _ _ _ rfl (HF1.out.1.alloc _) ⟨w1.heap.size, 0, none⟩ 1 1 [.int .i64 x] rfl rfl ?c1 ?c2 ?c3 ?c4 ?c5 ?_)
      try (case c1 => (intro j u hj; match j, hj with
        | 0, hj => (simp at hj; subst hj; simp [Addr.add])))
      try (case c2 => first | rfl | (intro u hu; simp at hu; subst hu; rfl))
      try (case c3 => (have := hm.out; unfold maxLen; omega))
      try (case c4 => (have := hm.out; omega))
      try (case c5 => (have := HF1.out.2.1.2.size; first | omega | (simp; omega)))
      intro v' w2 hown hgrow hnil
      have HF2 : Hid (DL w sb v' (zs ++ [x]) w2) := HF1.out.push hgrow hown
      clear hown hgrow hnil HF1
      go_wp2_with fail
      go_roundw
      case rel => exact ⟨m - 1, zs ++ [x], by go_num, by omega, by show _ = _; have := hm.out; simp; omega, HF2⟩
      case measure => simp [intOf]; omega
    · obtain rfl : m = 0 := by omega
      go_wp2_with fail
      go_ret
      exact ⟨_, rfl, zs, by have := hm.out; omega, hF.out⟩

set_option maxRecDepth 100000 in
set_option maxHeartbeats 2000000 in
theorem drising_any (sb N : Nat) (of_ : Int) (hN : N ≤ 1000) (hof : of_ ≤ 1000) (w : World) (h : Src sb w) :
    Calls Tryd.prog 43 #[.pointer (some ⟨sb, 0, none⟩), .int .i64 N, .int .i64 of_] w fun e w' => ∃ v, e = .returned v ∧ ∃ zs : List Int, zs.length ≤ N ∧ DL w sb v zs w' := by
  have H : Hid (Src sb w) := h
  have hlt := h.lt
  clear h
  obtain ⟨i0, hi, hz0, hz1, hz2⟩ := info_parts roinfo
  go_enter Tryd.func43, Tryd.ntmps43
  go_wp2_with fail
  go_loopw [7, 8] (fun ov iv wr => ∃ (i : Nat) (zs : List Int), iv = .int .i64 i ∧ i ≤ N ∧ Hid (zs.length ≤ i) ∧ Hid (DL w sb ov zs wr)) (fun _ iv _ => N - (intOf iv).toNat)
  case atStart => exact ⟨0, [], rfl, Nat.zero_le _, by show _ ≤ _; simp, dl_start H.out⟩
  case round =>
    obtain ⟨i, zs, rfl, hiN, hm, hF⟩ := hrel
    obtain ⟨av, cv, rfl⟩ := d_shape hF.out.1
    by_cases hlt2 : i < N
    · have hltz : (i : Int) < (N : Int) := by omega
      go_wp2_with fail
      refine (one_any sb of_ _ hF.out.2.1.1 (by omega)).mono ?_
      rintro e w1 ⟨⟨bb, rfl⟩, hD⟩
      have HF1 : Hid (DL w sb _ zs w1) := hF.out.draw hD
      clear hD hF
      cases bb with
      | false =>
        go_wp2_with fail
        go_roundw
        case rel => exact ⟨i + 1, zs, by go_num, by omega, Nat.le_succ_of_le hm.out, HF1⟩
        case measure => simp [intOf]; omega
      | true =>
        go_wp2_with (at_builtin; refine wpList_append_own _ rfl _ _ 24 rfl w.heap.size 2 i0 (.int .i64 0) 1 8 Tryd.underlying24 hi hz0 hz1 hz2 rfl (by decide) _ _ _ rfl (HF1.out.1.alloc _) ⟨w1.heap.size, 0, none⟩ 1 1 [.int .i64 (i : Nat)] rfl rfl ?c1 ?c2 ?c3 ?c4 ?c5 ?_)
        try (case c1 => (intro j u hj; match j, hj with
          | 0, hj => (simp at hj; subst hj; simp [Addr.add])))
        try (case c2 => first | rfl | (intro u hu; simp at hu; subst hu; rfl))
        try (case c3 => (have := hm.out; unfold maxLen; omega))
        try (case c4 => (have := hm.out; omega))
        try (case c5 => (have := HF1.out.2.1.2.size; first | omega | (simp; omega)))
        intro v' w2 hown hgrow hnil
        have HF2 : Hid (DL w sb v' (zs ++ [(i : Int)]) w2) := HF1.out.push hgrow hown
        clear hown hgrow hnil HF1
        go_wp2_with fail
        go_roundw
        case rel => exact ⟨i + 1, zs ++ [(i : Int)], by go_num, by omega, by show _ ≤ _; have := hm.out; simp; omega, HF2⟩
        case measure => simp [intOf]; omega
    · obtain rfl : i = N := by omega
      go_wp2_with fail
      go_ret
      exact ⟨_, rfl, zs, hm.out, hF.out⟩
theorem nrow_drew {w w' : World} {g sb : Nat} {t : TypeId} {m : Nat} {F : Nat → Value} (h : w.rowIs g t m F) (hne : sb ≠ g) (hc : Chg sb w w') : w'.rowIs g t m F := h.of_block (hc.2.2.2.2 g h.lt (fun e => hne e.symm))
theorem three_at {W : World} {g : Nat} {a b c : Int} (h : W.rowIs g 2 3 (rowN [.int .i64 a, .int .i64 b, .int .i64 c])) {q : Nat} (hq : q < 3) : ∃ x, W.cell? ⟨g, q, none⟩ = some (.int .i64 x) := by
  have := h.cell (i := q) hq
  match q, hq with
  | 0, _ => exact ⟨a, this⟩
  | 1, _ => exact ⟨b, this⟩
  | 2, _ => exact ⟨c, this⟩
/-- Drawn assets so far: the list, the source, the old memory. -/
def AL (w : World) (sb : Nat) (v : Value) (n : Nat) (F : Nat → Int) (W : World) : Prop := W.ownsRow w.heap.size 53 2 v n (Rn.asVs F (List.range n)) ∧ Drew sb w W ∧ sb < w.heap.size ∧ v ≠ .slice none 0 0
theorem AL.draw {w : World} {sb : Nat} {v : Value} {n : Nat} {F : Nat → Int} {W W' : World} (h : AL w sb v n F W) (hd : Drew sb W W') : AL w sb v n F W' :=
  ⟨d_far h.1 (fun k hk hl => hd.2.2.2.2.2 k hl (by have := (h.1.lt k hk).1; have := h.2.2.1; omega)), ⟨hd.1, h.2.1.2.trans hd.2⟩, h.2.2⟩
theorem AL.below {w : World} {sb : Nat} {v : Value} {n : Nat} {F : Nat → Int} {W W' : World} (h : AL w sb v n F W) (hb : Below W.heap.size W W') : AL w sb v n F W' := ⟨rown_below h.1 hb, ⟨h.2.1.1.below hb, h.2.1.2.trans (Chg.of_below hb)⟩, h.2.2⟩
theorem AL.set {w : World} {sb : Nat} {v : Value} {n : Nat} {F : Nat → Int} {W : World} (h : AL w sb v n F W) {g : Nat} (hw : w.heap.size ≤ g) (_hs : sb ≠ g) (ho : ∀ k, v.ownBlock = some k → k ≠ g) (i : Nat) (x : Value) : AL w sb v n F (W.setCell ⟨g, i, none⟩ x) := by
  have hlt := h.2.2.1
  refine ⟨d_far h.1 (fun k hk _ => rhs _ _ _ (ho k hk) _ _), ⟨h.2.1.1.keep (fun k hk => rhs _ _ _ (by omega) _ _), ?_⟩, h.2.2⟩
  have c := h.2.1.2
  exact ⟨c.1, c.2.1, c.2.2.1, by simpa using c.2.2.2.1, fun k hk hne => (rhs _ _ _ (by omega) _ _).trans (c.2.2.2.2 k hk hne)⟩
theorem asVs_congr {F G : Nat → Int} : ∀ {l : List Nat}, (∀ q, q ∈ l → F (q * 2) = G (q * 2) ∧ F (q * 2 + 1) = G (q * 2 + 1)) → Rn.asVs F l = Rn.asVs G l := by
  intro l
  induction l with
  | nil => intro _; rfl
  | cons x l ih =>
    intro h
    have e : ∀ K : Nat → Int, Rn.asVs K (x :: l) = Value.int .i64 (K (x * 2)) :: Value.int .i64 (K (x * 2 + 1)) :: Rn.asVs K l := fun K => by simp [Rn.asVs]
    rw [e, e, (h x (by simp)).1, (h x (by simp)).2, ih (fun q hq => h q (by simp [hq]))]
theorem AL.push {w : World} {sb : Nat} {v v' : Value} {n : Nat} {F : Nat → Int} {c y : Int} {W W' : World} {o : Obj} (h : AL w sb v n F W) (hg : (W.alloc o).grownBy W' v.ownBlock)
    (hown : W'.ownsRow w.heap.size 53 2 v' (n + 1) (Rn.asVs F (List.range n) ++ [.int .i64 c, .int .i64 y])) (hnil : ¬ v' = .slice none 0 0) : ∃ F', AL w sb v' (n + 1) F' W' := by
  have hz := h.2.1.2.size
  have hrow : ∀ k, v.ownBlock = some k → w.heap.size ≤ k := fun k e => (h.1.lt k e).1
  have hk : ∀ k, k < w.heap.size → W'.heap[k]? = W.heap[k]? := fun k hk => by
    rw [hg.block k (by simp; omega) (fun e => by have := hrow k e.symm; omega)]
    exact (nbel_alloc W o).block k (by omega)
  refine ⟨fun j => if j < n * 2 then F j else if j = n * 2 then c else y, ?_, ⟨h.2.1.1.keep (fun k hk2 => hk k (by have := h.2.2.1; omega)), ?_⟩, h.2.2.1, hnil⟩
  · rw [List.range_succ, Rn.asVs_app]
    simp only [show ¬ n * 2 < n * 2 by omega, show ¬ n * 2 + 1 < n * 2 by omega, show ¬ n * 2 + 1 = n * 2 by omega, if_false, if_true]
    have e : Rn.asVs (fun j => if j < n * 2 then F j else if j = n * 2 then c else y) (List.range n) = Rn.asVs F (List.range n) := by
      refine asVs_congr (fun q hq => ?_)
      rw [List.mem_range] at hq
      simp only [show q * 2 < n * 2 by omega, show q * 2 + 1 < n * 2 by omega, if_true, and_self]
    rw [e]
    exact hown
  · exact ⟨hg.os.trans h.2.1.2.1, hg.tape.trans h.2.1.2.2.1, hg.output.trans h.2.1.2.2.2.1, by have := hg.size; simp at this; omega, fun k hk1 hk2 => (hk k hk1).trans (h.2.1.2.2.2.2.2 k hk1 hk2)⟩
theorem al_start {w : World} {sb : Nat} (h : Src sb w) : AL w sb (.slice (some ⟨w.heap.size, 0, none⟩) 0 0) 0 (fun _ => 0) (w.alloc (.cells #[] 53)) :=
  ⟨World.ownsRow_made w #[] 0 (Nat.le_refl _) (Nat.zero_le _) rfl, ⟨h.below (nbel_alloc _ _), Chg.of_below (nbel_alloc _ _)⟩, h.lt, by simp⟩
theorem rinfo_as2 : (Tryd.prog.info? 53).map (fun i => (i.zero, i.size, i.bytes)) = some (some (.agg #[.int .i64 0, .int .i64 0]), 2, 16) := by kernel_rfl
set_option maxRecDepth 100000 in
set_option maxHeartbeats 8000000 in
theorem dassets_any (sb : Nat) (w : World) (h : Src sb w) :
    Calls Tryd.prog 40 #[.pointer (some ⟨sb, 0, none⟩)] w fun e w' => ∃ v n F, e = .returned v ∧ n ≤ 100 ∧ AL w sb v n F w' := by
  obtain ⟨i1, hi1, hy0, hy1, hy2⟩ := info_parts rinfo_as2
  have HA : Hid (AL w sb (.slice (some ⟨w.heap.size, 0, none⟩) 0 0) 0 (fun _ => 0) (w.alloc (.cells #[] 53))) := al_start h
  obtain ⟨W, hW⟩ : ∃ W, W = w.alloc (.cells #[] 53) := ⟨_, rfl⟩
  rw [← hW] at HA
  have HW := Lib.hid hW
  clear hW h
  obtain ⟨sa, slen, scap, sat, smix, ssz, hS, _, _, _, s4, s5, _⟩ := HA.out.2.1.1
  have c3 := hS.2.2.2.1
  clear hS
  go_enter Tryd.func40, Tryd.ntmps40
  go_upto_region 2 with fail
  rw [← HW.out]
  clear HW
  go_wp2_with fail
  refine (n_any sb _ _ HA.out.2.1.1 (by omega)).mono ?_
  rintro e w1 ⟨⟨N0, rfl, n0, n1, n2⟩, hD⟩
  have hN0 : 0 ≤ N0 ∧ N0 ≤ 100 := by
    by_cases q : 1 < 5 + ssz
    · have := n1 q; omega
    · have := n2 (by omega); omega
  replace HA := Lib.hid (HA.out.draw hD)
  clear hD n0 n1 n2 c3
  go_wp2_with fail
  refine (one_any sb 40 _ HA.out.2.1.1 (by omega)).mono ?_
  rintro e w2 ⟨⟨bb, rfl⟩, hD⟩
  replace HA := Lib.hid (HA.out.draw hD)
  clear hD
  have loop : ∀ (N : Nat), N ≤ 100 → True := fun _ _ => trivial
  clear loop
  cases bb with
  | false =>
    obtain ⟨N, rfl⟩ : ∃ N : Nat, N0 = (N : Int) := ⟨N0.toNat, by omega⟩
    have hN : N ≤ 100 := by omega
    clear hN0
    go_wp2_with fail
    go_loopw [3, 4, 5] (fun ov nv _ wr => ∃ (m k : Nat) (F : Nat → Int), nv = .int .i64 m ∧ m ≤ 100 ∧ Hid (m + k = N) ∧ Hid (AL w sb ov k F wr)) (fun _ nv _ _ => (intOf nv).toNat)
    case atStart => exact ⟨N, 0, _, rfl, hN, by show _ = _; simp, HA⟩
    case round =>
      obtain ⟨m, k, F, rfl, m1, hm, HA⟩ := hrel
      obtain ⟨av, cv, rfl⟩ := d_shape HA.out.1
      by_cases hlt2 : 0 < m
      case neg =>
        obtain rfl : m = 0 := by omega
        go_wp2_with fail
        go_ret
        exact ⟨_, k, F, rfl, by have := hm.out; omega, HA.out⟩
      have hltz : 0 < (m : Int) := by omega
      go_wp2_with fail
      refine (n_any sb 12 _ HA.out.2.1.1 (by omega)).mono ?_
      rintro e p1 ⟨⟨c0, rfl, n0, n1, _⟩, hD⟩
      have n2 := n1 (by omega)
      replace HA := Lib.hid (HA.out.draw hD)
      obtain ⟨cc, hcc⟩ : ∃ cc, cc = 1 + c0 := ⟨_, rfl⟩
      have ecc : IntKind.i64.wrap (1 + c0) = cc := by rw [rwrap (by omega) (by omega), hcc]
      clear hD n0 n1 n2 hcc
      go_wp2_with fail
      refine (n_any sb 15 _ HA.out.2.1.1 (by omega)).mono ?_
      rintro e p2 ⟨⟨yy, rfl, _, _, _⟩, hD⟩
      replace HA := Lib.hid (HA.out.draw hD)
      clear hD
      obtain ⟨X, hX⟩ : ∃ X, X = p2.alloc (.cells #[.int .i64 cc, .int .i64 yy] 53) := ⟨_, rfl⟩
      obtain ⟨gx, hgx⟩ : ∃ gx, gx = p2.heap.size := ⟨_, rfl⟩
      have hb : Below p2.heap.size p2 X := by rw [hX]; exact nbel_alloc _ _
      have HX : Hid (X.rowIs gx 53 2 (rowN [.int .i64 cc, .int .i64 yy])) := by show X.rowIs _ _ _ _; rw [hX, hgx]; exact rowN_alloc _ _ _
      have HGO : Hid (∀ q, (Value.slice av k cv).ownBlock = some q → q ≠ gx) := fun q e => by have := (HA.out.1.lt q e).2; omega
      have HGW : Hid (w.heap.size ≤ gx) := by show _ ≤ _; rw [hgx]; exact HA.out.2.1.2.size
      have HGB : Hid (sb ≠ gx) := by show _ ≠ _; have := HA.out.2.2.1; have := HGW.out; omega
      replace HA := Lib.hid (HA.out.below hb)
      have HX0 := Lib.hid hX
      have HGX := Lib.hid hgx
      clear hb hX hgx
      go_upto_region 8 with fail
      rw [← HX0.out, ← HGX.out]
      clear HX0 HGX ecc
      go_wp2_with fail
      refine (one_any sb 90 _ HA.out.2.1.1 (by omega)).mono ?_
      rintro e vA ⟨⟨bA, rfl⟩, hD⟩
      replace HX := Lib.hid (nrow_drew HX.out HGB.out hD.2)
      replace HA := Lib.hid (HA.out.draw hD)
      clear hD
      cases bA with
      | false =>
        go_wp2_with fail
        refine (one_any sb 90 _ HA.out.2.1.1 (by omega)).mono ?_
        rintro e vB ⟨⟨bB, rfl⟩, hD⟩
        replace HX := Lib.hid (nrow_drew HX.out HGB.out hD.2)
        replace HA := Lib.hid (HA.out.draw hD)
        clear hD
        cases bB with
        | false =>
          obtain ⟨⟨x0, x1⟩, _⟩ := rowN2 HX.out
          have hgv := HX.out.lt
          go_wp2_with (at_builtin; refine wpList_append_own _ rfl _ _ 28 rfl w.heap.size 53 i1 (.agg #[.int .i64 0, .int .i64 0]) 2 16 Tryd.underlying28 hi1 hy0 hy1 hy2 rfl (by decide) _ _ _ rfl (HA.out.1.alloc _) ⟨vB.heap.size, 0, none⟩ 1 1 [.int .i64 cc, .int .i64 yy] rfl rfl ?c1 ?c2 ?c3 ?c4 ?c5 ?_)
          try (case c1 => (intro j u hj; match j, hj with
            | 0, hj => (simp at hj; subst hj; simp [Addr.add])
            | 1, hj => (simp at hj; subst hj; simp [Addr.add])))
          try (case c2 => first | rfl | (intro u hu; simp at hu; rcases hu with rfl | rfl <;> rfl))
          try (case c3 => (have := hm.out; unfold maxLen; omega))
          try (case c4 => (have := hm.out; omega))
          try (case c5 => (have := HA.out.2.1.2.size; first | omega | (simp; omega)))
          intro v' w9 hown hgrow hnil
          obtain ⟨F', HA2⟩ := HA.out.push hgrow hown hnil
          replace HA2 := Lib.hid HA2
          clear hown hgrow hnil HA x0 x1 hgv
          go_wp2_with fail
          go_roundw
          case rel => exact ⟨m - 1, k + 1, F', by go_num, by omega, by show _ = _; have := hm.out; omega, HA2⟩
          case measure => simp [intOf]; omega
        | true =>
          have HNEB : Hid (sb ≠ vB.heap.size) := by show _ ≠ _; have := HGW.out; have := HX.out.lt; have := HA.out.2.2.1; omega
          obtain ⟨uB, huB⟩ : ∃ U, U = vB.alloc (.cells #[.int .i64 (-1), .int .i64 1000, .int .i64 1001] 2) := ⟨_, rfl⟩
          have hb : Below vB.heap.size vB uB := by rw [huB]; exact nbel_alloc _ _
          have HRB : Hid (uB.rowIs vB.heap.size 2 3 (rowN [.int .i64 (-1), .int .i64 1000, .int .i64 1001])) := by show World.rowIs _ _ _ _ _; rw [huB]; exact rowN_alloc _ _ _
          replace HX := Lib.hid (nrow_below HX.out hb)
          replace HA := Lib.hid (HA.out.below hb)
          have HU := Lib.hid huB
          clear hb huB
          go_wp2_with fail
          rw [← HU.out]
          clear HU
          refine (n_any sb 3 _ HA.out.2.1.1 (by omega)).mono ?_
          rintro e tB ⟨⟨iB, rfl, i0, i1', _⟩, hD⟩
          have hi3 := i1' (by omega)
          obtain ⟨qB, rfl⟩ : ∃ q : Nat, iB = (q : Int) := ⟨iB.toNat, by omega⟩
          replace HX := Lib.hid (nrow_drew HX.out HGB.out hD.2)
          replace HRB := Lib.hid (nrow_drew HRB.out HNEB.out hD.2)
          replace HA := Lib.hid (HA.out.draw hD)
          obtain ⟨xB, hxB⟩ := three_at (a := (-1)) (b := 1000) (c := 1001) HRB.out (show qB < 3 by omega)
          have hq3 : (qB : Int) < 3 := by omega
          clear hD i0 i1' hi3 HNEB
          obtain ⟨⟨o0, o1⟩, z0, z1⟩ := rowN2 HX.out
          have hol := HX.out.lt
          have HX2 : Hid ((tB.setCell ⟨gx, 1, none⟩ (.int .i64 xB)).rowIs gx 53 2 (rowN [.int .i64 cc, .int .i64 xB])) := rowN_put HX.out 1 _ (by simp)
          have HA2 : Hid (AL w sb (.slice av k cv) k F (tB.setCell ⟨gx, 1, none⟩ (.int .i64 xB))) := HA.out.set HGW.out HGB.out HGO.out _ _
          clear HX HA HRB
          go_upto_region 12 with fail
          have HX := HX2
          have HA := HA2
          clear HX2 HA2 o0 o1 z0 z1 hol hxB hq3
          generalize tB.setCell ⟨gx, 1, none⟩ (.int .i64 xB) = sB at HX HA ⊢
          obtain ⟨⟨x0, x1⟩, _⟩ := rowN2 HX.out
          have hgv := HX.out.lt
          go_wp2_with (at_builtin; refine wpList_append_own _ rfl _ _ 28 rfl w.heap.size 53 i1 (.agg #[.int .i64 0, .int .i64 0]) 2 16 Tryd.underlying28 hi1 hy0 hy1 hy2 rfl (by decide) _ _ _ rfl (HA.out.1.alloc _) ⟨sB.heap.size, 0, none⟩ 1 1 [.int .i64 cc, .int .i64 xB] rfl rfl ?c1 ?c2 ?c3 ?c4 ?c5 ?_)
          try (case c1 => (intro j u hj; match j, hj with
            | 0, hj => (simp at hj; subst hj; simp [Addr.add])
            | 1, hj => (simp at hj; subst hj; simp [Addr.add])))
          try (case c2 => first | rfl | (intro u hu; simp at hu; rcases hu with rfl | rfl <;> rfl))
          try (case c3 => (have := hm.out; unfold maxLen; omega))
          try (case c4 => (have := hm.out; omega))
          try (case c5 => (have := HA.out.2.1.2.size; first | omega | (simp; omega)))
          intro v' w9 hown hgrow hnil
          obtain ⟨F', HA2⟩ := HA.out.push hgrow hown hnil
          replace HA2 := Lib.hid HA2
          clear hown hgrow hnil HA x0 x1 hgv
          go_wp2_with fail
          go_roundw
          case rel => exact ⟨m - 1, k + 1, F', by go_num, by omega, by show _ = _; have := hm.out; omega, HA2⟩
          case measure => simp [intOf]; omega
      | true =>
        have HNEA : Hid (sb ≠ vA.heap.size) := by show _ ≠ _; have := HGW.out; have := HX.out.lt; have := HA.out.2.2.1; omega
        obtain ⟨uA, huA⟩ : ∃ U, U = vA.alloc (.cells #[.int .i64 0, .int .i64 300, .int .i64 301] 2) := ⟨_, rfl⟩
        have hb : Below vA.heap.size vA uA := by rw [huA]; exact nbel_alloc _ _
        have HRA : Hid (uA.rowIs vA.heap.size 2 3 (rowN [.int .i64 0, .int .i64 300, .int .i64 301])) := by show World.rowIs _ _ _ _ _; rw [huA]; exact rowN_alloc _ _ _
        replace HX := Lib.hid (nrow_below HX.out hb)
        replace HA := Lib.hid (HA.out.below hb)
        have HU := Lib.hid huA
        clear hb huA
        go_wp2_with fail
        rw [← HU.out]
        clear HU
        refine (n_any sb 3 _ HA.out.2.1.1 (by omega)).mono ?_
        rintro e tA ⟨⟨iA, rfl, i0, i1', _⟩, hD⟩
        have hi3 := i1' (by omega)
        obtain ⟨qA, rfl⟩ : ∃ q : Nat, iA = (q : Int) := ⟨iA.toNat, by omega⟩
        replace HX := Lib.hid (nrow_drew HX.out HGB.out hD.2)
        replace HRA := Lib.hid (nrow_drew HRA.out HNEA.out hD.2)
        replace HA := Lib.hid (HA.out.draw hD)
        obtain ⟨xA, hxA⟩ := three_at (a := 0) (b := 300) (c := 301) HRA.out (show qA < 3 by omega)
        have hq3 : (qA : Int) < 3 := by omega
        clear hD i0 i1' hi3 HNEA
        obtain ⟨⟨o0, o1⟩, z0, z1⟩ := rowN2 HX.out
        have hol := HX.out.lt
        have HX2 : Hid ((tA.setCell ⟨gx, 0, none⟩ (.int .i64 xA)).rowIs gx 53 2 (rowN [.int .i64 xA, .int .i64 yy])) := rowN_put HX.out 0 _ (by simp)
        have HA2 : Hid (AL w sb (.slice av k cv) k F (tA.setCell ⟨gx, 0, none⟩ (.int .i64 xA))) := HA.out.set HGW.out HGB.out HGO.out _ _
        clear HX HA HRA
        go_upto_region 10 with fail
        have HX := HX2
        have HA := HA2
        clear HX2 HA2 o0 o1 z0 z1 hol hxA hq3
        generalize tA.setCell ⟨gx, 0, none⟩ (.int .i64 xA) = sA at HX HA ⊢
        go_wp2_with fail
        refine (one_any sb 90 _ HA.out.2.1.1 (by omega)).mono ?_
        rintro e vC ⟨⟨bC, rfl⟩, hD⟩
        replace HX := Lib.hid (nrow_drew HX.out HGB.out hD.2)
        replace HA := Lib.hid (HA.out.draw hD)
        clear hD
        cases bC with
        | false =>
          obtain ⟨⟨x0, x1⟩, _⟩ := rowN2 HX.out
          have hgv := HX.out.lt
          go_wp2_with (at_builtin; refine wpList_append_own _ rfl _ _ 28 rfl w.heap.size 53 i1 (.agg #[.int .i64 0, .int .i64 0]) 2 16 Tryd.underlying28 hi1 hy0 hy1 hy2 rfl (by decide) _ _ _ rfl (HA.out.1.alloc _) ⟨vC.heap.size, 0, none⟩ 1 1 [.int .i64 xA, .int .i64 yy] rfl rfl ?c1 ?c2 ?c3 ?c4 ?c5 ?_)
          try (case c1 => (intro j u hj; match j, hj with
            | 0, hj => (simp at hj; subst hj; simp [Addr.add])
            | 1, hj => (simp at hj; subst hj; simp [Addr.add])))
          try (case c2 => first | rfl | (intro u hu; simp at hu; rcases hu with rfl | rfl <;> rfl))
          try (case c3 => (have := hm.out; unfold maxLen; omega))
          try (case c4 => (have := hm.out; omega))
          try (case c5 => (have := HA.out.2.1.2.size; first | omega | (simp; omega)))
          intro v' w9 hown hgrow hnil
          obtain ⟨F', HA2⟩ := HA.out.push hgrow hown hnil
          replace HA2 := Lib.hid HA2
          clear hown hgrow hnil HA x0 x1 hgv
          go_wp2_with fail
          go_roundw
          case rel => exact ⟨m - 1, k + 1, F', by go_num, by omega, by show _ = _; have := hm.out; omega, HA2⟩
          case measure => simp [intOf]; omega
        | true =>
          have HNEC : Hid (sb ≠ vC.heap.size) := by show _ ≠ _; have := HGW.out; have := HX.out.lt; have := HA.out.2.2.1; omega
          obtain ⟨uC, huC⟩ : ∃ U, U = vC.alloc (.cells #[.int .i64 (-1), .int .i64 1000, .int .i64 1001] 2) := ⟨_, rfl⟩
          have hb : Below vC.heap.size vC uC := by rw [huC]; exact nbel_alloc _ _
          have HRC : Hid (uC.rowIs vC.heap.size 2 3 (rowN [.int .i64 (-1), .int .i64 1000, .int .i64 1001])) := by show World.rowIs _ _ _ _ _; rw [huC]; exact rowN_alloc _ _ _
          replace HX := Lib.hid (nrow_below HX.out hb)
          replace HA := Lib.hid (HA.out.below hb)
          have HU := Lib.hid huC
          clear hb huC
          go_wp2_with fail
          rw [← HU.out]
          clear HU
          refine (n_any sb 3 _ HA.out.2.1.1 (by omega)).mono ?_
          rintro e tC ⟨⟨iC, rfl, i0, i1', _⟩, hD⟩
          have hi3 := i1' (by omega)
          obtain ⟨qC, rfl⟩ : ∃ q : Nat, iC = (q : Int) := ⟨iC.toNat, by omega⟩
          replace HX := Lib.hid (nrow_drew HX.out HGB.out hD.2)
          replace HRC := Lib.hid (nrow_drew HRC.out HNEC.out hD.2)
          replace HA := Lib.hid (HA.out.draw hD)
          obtain ⟨xC, hxC⟩ := three_at (a := (-1)) (b := 1000) (c := 1001) HRC.out (show qC < 3 by omega)
          have hq3 : (qC : Int) < 3 := by omega
          clear hD i0 i1' hi3 HNEC
          obtain ⟨⟨o0, o1⟩, z0, z1⟩ := rowN2 HX.out
          have hol := HX.out.lt
          have HX2 : Hid ((tC.setCell ⟨gx, 1, none⟩ (.int .i64 xC)).rowIs gx 53 2 (rowN [.int .i64 xA, .int .i64 xC])) := rowN_put HX.out 1 _ (by simp)
          have HA2 : Hid (AL w sb (.slice av k cv) k F (tC.setCell ⟨gx, 1, none⟩ (.int .i64 xC))) := HA.out.set HGW.out HGB.out HGO.out _ _
          clear HX HA HRC
          go_upto_region 12 with fail
          have HX := HX2
          have HA := HA2
          clear HX2 HA2 o0 o1 z0 z1 hol hxC hq3
          generalize tC.setCell ⟨gx, 1, none⟩ (.int .i64 xC) = sC at HX HA ⊢
          obtain ⟨⟨x0, x1⟩, _⟩ := rowN2 HX.out
          have hgv := HX.out.lt
          go_wp2_with (at_builtin; refine wpList_append_own _ rfl _ _ 28 rfl w.heap.size 53 i1 (.agg #[.int .i64 0, .int .i64 0]) 2 16 Tryd.underlying28 hi1 hy0 hy1 hy2 rfl (by decide) _ _ _ rfl (HA.out.1.alloc _) ⟨sC.heap.size, 0, none⟩ 1 1 [.int .i64 xA, .int .i64 xC] rfl rfl ?c1 ?c2 ?c3 ?c4 ?c5 ?_)
          try (case c1 => (intro j u hj; match j, hj with
            | 0, hj => (simp at hj; subst hj; simp [Addr.add])
            | 1, hj => (simp at hj; subst hj; simp [Addr.add])))
          try (case c2 => first | rfl | (intro u hu; simp at hu; rcases hu with rfl | rfl <;> rfl))
          try (case c3 => (have := hm.out; unfold maxLen; omega))
          try (case c4 => (have := hm.out; omega))
          try (case c5 => (have := HA.out.2.1.2.size; first | omega | (simp; omega)))
          intro v' w9 hown hgrow hnil
          obtain ⟨F', HA2⟩ := HA.out.push hgrow hown hnil
          replace HA2 := Lib.hid HA2
          clear hown hgrow hnil HA x0 x1 hgv
          go_wp2_with fail
          go_roundw
          case rel => exact ⟨m - 1, k + 1, F', by go_num, by omega, by show _ = _; have := hm.out; omega, HA2⟩
          case measure => simp [intOf]; omega
  | true =>
    clear hN0
    go_wp2_with fail
    refine (n_any sb 3 _ HA.out.2.1.1 (by omega)).mono ?_
    rintro e w3 ⟨⟨N0, rfl, n0, n1, _⟩, hD⟩
    have n2 := n1 (by omega)
    replace HA := Lib.hid (HA.out.draw hD)
    clear hD n1
    obtain ⟨N, hN'⟩ : ∃ N : Nat, 39 + N0 = (N : Int) := ⟨(39 + N0).toNat, by omega⟩
    have hN : N ≤ 100 := by omega
    have eN : IntKind.i64.wrap (39 + N0) = (N : Int) := by rw [rwrap (by omega) (by omega)]; exact hN'
    clear hN' n0 n2
    go_wp2_with fail
    go_loopw [3, 4, 5] (fun ov nv _ wr => ∃ (m k : Nat) (F : Nat → Int), nv = .int .i64 m ∧ m ≤ 100 ∧ Hid (m + k = N) ∧ Hid (AL w sb ov k F wr)) (fun _ nv _ _ => (intOf nv).toNat)
    case atStart => exact ⟨N, 0, _, rfl, hN, by show _ = _; simp, HA⟩
    case round =>
      obtain ⟨m, k, F, rfl, m1, hm, HA⟩ := hrel
      obtain ⟨av, cv, rfl⟩ := d_shape HA.out.1
      by_cases hlt2 : 0 < m
      case neg =>
        obtain rfl : m = 0 := by omega
        go_wp2_with fail
        go_ret
        exact ⟨_, k, F, rfl, by have := hm.out; omega, HA.out⟩
      have hltz : 0 < (m : Int) := by omega
      go_wp2_with fail
      refine (n_any sb 12 _ HA.out.2.1.1 (by omega)).mono ?_
      rintro e p1 ⟨⟨c0, rfl, n0, n1, _⟩, hD⟩
      have n2 := n1 (by omega)
      replace HA := Lib.hid (HA.out.draw hD)
      obtain ⟨cc, hcc⟩ : ∃ cc, cc = 1 + c0 := ⟨_, rfl⟩
      have ecc : IntKind.i64.wrap (1 + c0) = cc := by rw [rwrap (by omega) (by omega), hcc]
      clear hD n0 n1 n2 hcc
      go_wp2_with fail
      refine (n_any sb 15 _ HA.out.2.1.1 (by omega)).mono ?_
      rintro e p2 ⟨⟨yy, rfl, _, _, _⟩, hD⟩
      replace HA := Lib.hid (HA.out.draw hD)
      clear hD
      obtain ⟨X, hX⟩ : ∃ X, X = p2.alloc (.cells #[.int .i64 cc, .int .i64 yy] 53) := ⟨_, rfl⟩
      obtain ⟨gx, hgx⟩ : ∃ gx, gx = p2.heap.size := ⟨_, rfl⟩
      have hb : Below p2.heap.size p2 X := by rw [hX]; exact nbel_alloc _ _
      have HX : Hid (X.rowIs gx 53 2 (rowN [.int .i64 cc, .int .i64 yy])) := by show X.rowIs _ _ _ _; rw [hX, hgx]; exact rowN_alloc _ _ _
      have HGO : Hid (∀ q, (Value.slice av k cv).ownBlock = some q → q ≠ gx) := fun q e => by have := (HA.out.1.lt q e).2; omega
      have HGW : Hid (w.heap.size ≤ gx) := by show _ ≤ _; rw [hgx]; exact HA.out.2.1.2.size
      have HGB : Hid (sb ≠ gx) := by show _ ≠ _; have := HA.out.2.2.1; have := HGW.out; omega
      replace HA := Lib.hid (HA.out.below hb)
      have HX0 := Lib.hid hX
      have HGX := Lib.hid hgx
      clear hb hX hgx
      go_upto_region 8 with fail
      rw [← HX0.out, ← HGX.out]
      clear HX0 HGX ecc
      go_wp2_with fail
      refine (one_any sb 90 _ HA.out.2.1.1 (by omega)).mono ?_
      rintro e vA ⟨⟨bA, rfl⟩, hD⟩
      replace HX := Lib.hid (nrow_drew HX.out HGB.out hD.2)
      replace HA := Lib.hid (HA.out.draw hD)
      clear hD
      cases bA with
      | false =>
        go_wp2_with fail
        refine (one_any sb 90 _ HA.out.2.1.1 (by omega)).mono ?_
        rintro e vB ⟨⟨bB, rfl⟩, hD⟩
        replace HX := Lib.hid (nrow_drew HX.out HGB.out hD.2)
        replace HA := Lib.hid (HA.out.draw hD)
        clear hD
        cases bB with
        | false =>
          obtain ⟨⟨x0, x1⟩, _⟩ := rowN2 HX.out
          have hgv := HX.out.lt
          go_wp2_with (at_builtin; refine wpList_append_own _ rfl _ _ 28 rfl w.heap.size 53 i1 (.agg #[.int .i64 0, .int .i64 0]) 2 16 Tryd.underlying28 hi1 hy0 hy1 hy2 rfl (by decide) _ _ _ rfl (HA.out.1.alloc _) ⟨vB.heap.size, 0, none⟩ 1 1 [.int .i64 cc, .int .i64 yy] rfl rfl ?c1 ?c2 ?c3 ?c4 ?c5 ?_)
          try (case c1 => (intro j u hj; match j, hj with
            | 0, hj => (simp at hj; subst hj; simp [Addr.add])
            | 1, hj => (simp at hj; subst hj; simp [Addr.add])))
          try (case c2 => first | rfl | (intro u hu; simp at hu; rcases hu with rfl | rfl <;> rfl))
          try (case c3 => (have := hm.out; unfold maxLen; omega))
          try (case c4 => (have := hm.out; omega))
          try (case c5 => (have := HA.out.2.1.2.size; first | omega | (simp; omega)))
          intro v' w9 hown hgrow hnil
          obtain ⟨F', HA2⟩ := HA.out.push hgrow hown hnil
          replace HA2 := Lib.hid HA2
          clear hown hgrow hnil HA x0 x1 hgv
          go_wp2_with fail
          go_roundw
          case rel => exact ⟨m - 1, k + 1, F', by go_num, by omega, by show _ = _; have := hm.out; omega, HA2⟩
          case measure => simp [intOf]; omega
        | true =>
          have HNEB : Hid (sb ≠ vB.heap.size) := by show _ ≠ _; have := HGW.out; have := HX.out.lt; have := HA.out.2.2.1; omega
          obtain ⟨uB, huB⟩ : ∃ U, U = vB.alloc (.cells #[.int .i64 (-1), .int .i64 1000, .int .i64 1001] 2) := ⟨_, rfl⟩
          have hb : Below vB.heap.size vB uB := by rw [huB]; exact nbel_alloc _ _
          have HRB : Hid (uB.rowIs vB.heap.size 2 3 (rowN [.int .i64 (-1), .int .i64 1000, .int .i64 1001])) := by show World.rowIs _ _ _ _ _; rw [huB]; exact rowN_alloc _ _ _
          replace HX := Lib.hid (nrow_below HX.out hb)
          replace HA := Lib.hid (HA.out.below hb)
          have HU := Lib.hid huB
          clear hb huB
          go_wp2_with fail
          rw [← HU.out]
          clear HU
          refine (n_any sb 3 _ HA.out.2.1.1 (by omega)).mono ?_
          rintro e tB ⟨⟨iB, rfl, i0, i1', _⟩, hD⟩
          have hi3 := i1' (by omega)
          obtain ⟨qB, rfl⟩ : ∃ q : Nat, iB = (q : Int) := ⟨iB.toNat, by omega⟩
          replace HX := Lib.hid (nrow_drew HX.out HGB.out hD.2)
          replace HRB := Lib.hid (nrow_drew HRB.out HNEB.out hD.2)
          replace HA := Lib.hid (HA.out.draw hD)
          obtain ⟨xB, hxB⟩ := three_at (a := (-1)) (b := 1000) (c := 1001) HRB.out (show qB < 3 by omega)
          have hq3 : (qB : Int) < 3 := by omega
          clear hD i0 i1' hi3 HNEB
          obtain ⟨⟨o0, o1⟩, z0, z1⟩ := rowN2 HX.out
          have hol := HX.out.lt
          have HX2 : Hid ((tB.setCell ⟨gx, 1, none⟩ (.int .i64 xB)).rowIs gx 53 2 (rowN [.int .i64 cc, .int .i64 xB])) := rowN_put HX.out 1 _ (by simp)
          have HA2 : Hid (AL w sb (.slice av k cv) k F (tB.setCell ⟨gx, 1, none⟩ (.int .i64 xB))) := HA.out.set HGW.out HGB.out HGO.out _ _
          clear HX HA HRB
          go_upto_region 12 with fail
          have HX := HX2
          have HA := HA2
          clear HX2 HA2 o0 o1 z0 z1 hol hxB hq3
          generalize tB.setCell ⟨gx, 1, none⟩ (.int .i64 xB) = sB at HX HA ⊢
          obtain ⟨⟨x0, x1⟩, _⟩ := rowN2 HX.out
          have hgv := HX.out.lt
          go_wp2_with (at_builtin; refine wpList_append_own _ rfl _ _ 28 rfl w.heap.size 53 i1 (.agg #[.int .i64 0, .int .i64 0]) 2 16 Tryd.underlying28 hi1 hy0 hy1 hy2 rfl (by decide) _ _ _ rfl (HA.out.1.alloc _) ⟨sB.heap.size, 0, none⟩ 1 1 [.int .i64 cc, .int .i64 xB] rfl rfl ?c1 ?c2 ?c3 ?c4 ?c5 ?_)
          try (case c1 => (intro j u hj; match j, hj with
            | 0, hj => (simp at hj; subst hj; simp [Addr.add])
            | 1, hj => (simp at hj; subst hj; simp [Addr.add])))
          try (case c2 => first | rfl | (intro u hu; simp at hu; rcases hu with rfl | rfl <;> rfl))
          try (case c3 => (have := hm.out; unfold maxLen; omega))
          try (case c4 => (have := hm.out; omega))
          try (case c5 => (have := HA.out.2.1.2.size; first | omega | (simp; omega)))
          intro v' w9 hown hgrow hnil
          obtain ⟨F', HA2⟩ := HA.out.push hgrow hown hnil
          replace HA2 := Lib.hid HA2
          clear hown hgrow hnil HA x0 x1 hgv
          go_wp2_with fail
          go_roundw
          case rel => exact ⟨m - 1, k + 1, F', by go_num, by omega, by show _ = _; have := hm.out; omega, HA2⟩
          case measure => simp [intOf]; omega
      | true =>
        have HNEA : Hid (sb ≠ vA.heap.size) := by show _ ≠ _; have := HGW.out; have := HX.out.lt; have := HA.out.2.2.1; omega
        obtain ⟨uA, huA⟩ : ∃ U, U = vA.alloc (.cells #[.int .i64 0, .int .i64 300, .int .i64 301] 2) := ⟨_, rfl⟩
        have hb : Below vA.heap.size vA uA := by rw [huA]; exact nbel_alloc _ _
        have HRA : Hid (uA.rowIs vA.heap.size 2 3 (rowN [.int .i64 0, .int .i64 300, .int .i64 301])) := by show World.rowIs _ _ _ _ _; rw [huA]; exact rowN_alloc _ _ _
        replace HX := Lib.hid (nrow_below HX.out hb)
        replace HA := Lib.hid (HA.out.below hb)
        have HU := Lib.hid huA
        clear hb huA
        go_wp2_with fail
        rw [← HU.out]
        clear HU
        refine (n_any sb 3 _ HA.out.2.1.1 (by omega)).mono ?_
        rintro e tA ⟨⟨iA, rfl, i0, i1', _⟩, hD⟩
        have hi3 := i1' (by omega)
        obtain ⟨qA, rfl⟩ : ∃ q : Nat, iA = (q : Int) := ⟨iA.toNat, by omega⟩
        replace HX := Lib.hid (nrow_drew HX.out HGB.out hD.2)
        replace HRA := Lib.hid (nrow_drew HRA.out HNEA.out hD.2)
        replace HA := Lib.hid (HA.out.draw hD)
        obtain ⟨xA, hxA⟩ := three_at (a := 0) (b := 300) (c := 301) HRA.out (show qA < 3 by omega)
        have hq3 : (qA : Int) < 3 := by omega
        clear hD i0 i1' hi3 HNEA
        obtain ⟨⟨o0, o1⟩, z0, z1⟩ := rowN2 HX.out
        have hol := HX.out.lt
        have HX2 : Hid ((tA.setCell ⟨gx, 0, none⟩ (.int .i64 xA)).rowIs gx 53 2 (rowN [.int .i64 xA, .int .i64 yy])) := rowN_put HX.out 0 _ (by simp)
        have HA2 : Hid (AL w sb (.slice av k cv) k F (tA.setCell ⟨gx, 0, none⟩ (.int .i64 xA))) := HA.out.set HGW.out HGB.out HGO.out _ _
        clear HX HA HRA
        go_upto_region 10 with fail
        have HX := HX2
        have HA := HA2
        clear HX2 HA2 o0 o1 z0 z1 hol hxA hq3
        generalize tA.setCell ⟨gx, 0, none⟩ (.int .i64 xA) = sA at HX HA ⊢
        go_wp2_with fail
        refine (one_any sb 90 _ HA.out.2.1.1 (by omega)).mono ?_
        rintro e vC ⟨⟨bC, rfl⟩, hD⟩
        replace HX := Lib.hid (nrow_drew HX.out HGB.out hD.2)
        replace HA := Lib.hid (HA.out.draw hD)
        clear hD
        cases bC with
        | false =>
          obtain ⟨⟨x0, x1⟩, _⟩ := rowN2 HX.out
          have hgv := HX.out.lt
          go_wp2_with (at_builtin; refine wpList_append_own _ rfl _ _ 28 rfl w.heap.size 53 i1 (.agg #[.int .i64 0, .int .i64 0]) 2 16 Tryd.underlying28 hi1 hy0 hy1 hy2 rfl (by decide) _ _ _ rfl (HA.out.1.alloc _) ⟨vC.heap.size, 0, none⟩ 1 1 [.int .i64 xA, .int .i64 yy] rfl rfl ?c1 ?c2 ?c3 ?c4 ?c5 ?_)
          try (case c1 => (intro j u hj; match j, hj with
            | 0, hj => (simp at hj; subst hj; simp [Addr.add])
            | 1, hj => (simp at hj; subst hj; simp [Addr.add])))
          try (case c2 => first | rfl | (intro u hu; simp at hu; rcases hu with rfl | rfl <;> rfl))
          try (case c3 => (have := hm.out; unfold maxLen; omega))
          try (case c4 => (have := hm.out; omega))
          try (case c5 => (have := HA.out.2.1.2.size; first | omega | (simp; omega)))
          intro v' w9 hown hgrow hnil
          obtain ⟨F', HA2⟩ := HA.out.push hgrow hown hnil
          replace HA2 := Lib.hid HA2
          clear hown hgrow hnil HA x0 x1 hgv
          go_wp2_with fail
          go_roundw
          case rel => exact ⟨m - 1, k + 1, F', by go_num, by omega, by show _ = _; have := hm.out; omega, HA2⟩
          case measure => simp [intOf]; omega
        | true =>
          have HNEC : Hid (sb ≠ vC.heap.size) := by show _ ≠ _; have := HGW.out; have := HX.out.lt; have := HA.out.2.2.1; omega
          obtain ⟨uC, huC⟩ : ∃ U, U = vC.alloc (.cells #[.int .i64 (-1), .int .i64 1000, .int .i64 1001] 2) := ⟨_, rfl⟩
          have hb : Below vC.heap.size vC uC := by rw [huC]; exact nbel_alloc _ _
          have HRC : Hid (uC.rowIs vC.heap.size 2 3 (rowN [.int .i64 (-1), .int .i64 1000, .int .i64 1001])) := by show World.rowIs _ _ _ _ _; rw [huC]; exact rowN_alloc _ _ _
          replace HX := Lib.hid (nrow_below HX.out hb)
          replace HA := Lib.hid (HA.out.below hb)
          have HU := Lib.hid huC
          clear hb huC
          go_wp2_with fail
          rw [← HU.out]
          clear HU
          refine (n_any sb 3 _ HA.out.2.1.1 (by omega)).mono ?_
          rintro e tC ⟨⟨iC, rfl, i0, i1', _⟩, hD⟩
          have hi3 := i1' (by omega)
          obtain ⟨qC, rfl⟩ : ∃ q : Nat, iC = (q : Int) := ⟨iC.toNat, by omega⟩
          replace HX := Lib.hid (nrow_drew HX.out HGB.out hD.2)
          replace HRC := Lib.hid (nrow_drew HRC.out HNEC.out hD.2)
          replace HA := Lib.hid (HA.out.draw hD)
          obtain ⟨xC, hxC⟩ := three_at (a := (-1)) (b := 1000) (c := 1001) HRC.out (show qC < 3 by omega)
          have hq3 : (qC : Int) < 3 := by omega
          clear hD i0 i1' hi3 HNEC
          obtain ⟨⟨o0, o1⟩, z0, z1⟩ := rowN2 HX.out
          have hol := HX.out.lt
          have HX2 : Hid ((tC.setCell ⟨gx, 1, none⟩ (.int .i64 xC)).rowIs gx 53 2 (rowN [.int .i64 xA, .int .i64 xC])) := rowN_put HX.out 1 _ (by simp)
          have HA2 : Hid (AL w sb (.slice av k cv) k F (tC.setCell ⟨gx, 1, none⟩ (.int .i64 xC))) := HA.out.set HGW.out HGB.out HGO.out _ _
          clear HX HA HRC
          go_upto_region 12 with fail
          have HX := HX2
          have HA := HA2
          clear HX2 HA2 o0 o1 z0 z1 hol hxC hq3
          generalize tC.setCell ⟨gx, 1, none⟩ (.int .i64 xC) = sC at HX HA ⊢
          obtain ⟨⟨x0, x1⟩, _⟩ := rowN2 HX.out
          have hgv := HX.out.lt
          go_wp2_with (at_builtin; refine wpList_append_own _ rfl _ _ 28 rfl w.heap.size 53 i1 (.agg #[.int .i64 0, .int .i64 0]) 2 16 Tryd.underlying28 hi1 hy0 hy1 hy2 rfl (by decide) _ _ _ rfl (HA.out.1.alloc _) ⟨sC.heap.size, 0, none⟩ 1 1 [.int .i64 xA, .int .i64 xC] rfl rfl ?c1 ?c2 ?c3 ?c4 ?c5 ?_)
          try (case c1 => (intro j u hj; match j, hj with
            | 0, hj => (simp at hj; subst hj; simp [Addr.add])
            | 1, hj => (simp at hj; subst hj; simp [Addr.add])))
          try (case c2 => first | rfl | (intro u hu; simp at hu; rcases hu with rfl | rfl <;> rfl))
          try (case c3 => (have := hm.out; unfold maxLen; omega))
          try (case c4 => (have := hm.out; omega))
          try (case c5 => (have := HA.out.2.1.2.size; first | omega | (simp; omega)))
          intro v' w9 hown hgrow hnil
          obtain ⟨F', HA2⟩ := HA.out.push hgrow hown hnil
          replace HA2 := Lib.hid HA2
          clear hown hgrow hnil HA x0 x1 hgv
          go_wp2_with fail
          go_roundw
          case rel => exact ⟨m - 1, k + 1, F', by go_num, by omega, by show _ = _; have := hm.out; omega, HA2⟩
          case measure => simp [intOf]; omega
end Go.Proofs.YtbkpedcabbppbaaDoor
