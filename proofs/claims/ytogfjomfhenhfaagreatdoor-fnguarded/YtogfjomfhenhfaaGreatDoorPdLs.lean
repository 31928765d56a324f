/-
  The draws of lists of numbers, of a pick.
-/
import Derived.Test.YtogfjomfhenhfaaGreatDoorSource
import Derived.Test.YtogfjomfhenhfaaGreatDoorNtMem
import Derived.Test.YtogfjomfhenhfaaGreatDoorReg
import Derived.Laws.AppendOwn
namespace Go.Proofs.YtogfjomfhenhfaaGreatDoor
open Go Go.RowKit Go.Deep

theorem pdinfo : (Tryz.prog.info? 2).map (fun i => (i.zero, i.size, i.bytes)) = some (some (.int .i64 0), 1, 8) := by kernel_rfl
theorem d_far {B n size : Nat} {e : TypeId} {v : Value} {xs : List Value} {W W' : World} (h : W.ownsRow B e size v n xs) (hb : ∀ k, v.ownBlock = some k → k < W.heap.size → W'.heap[k]? = W.heap[k]?) : W'.ownsRow B e size v n xs := by
  obtain ⟨h1, h2⟩ := h
  refine ⟨h1, ?_⟩
  rcases h2 with h2 | ⟨g, cap, cur, e1, e2, e3, e4⟩
  · exact Or.inl h2
  · refine Or.inr ⟨g, cap, cur, e1, e2, ?_, e4⟩
    have hlt : g < W.heap.size := by
      rcases Nat.lt_or_ge g W.heap.size with h | h
      · exact h
      · rw [Array.getElem?_eq_none h] at e3; cases e3
    rw [hb g (by rw [e1]; rfl) hlt]; exact e3
theorem d_shape {B n size : Nat} {e : TypeId} {v : Value} {xs : List Value} {W : World} (h : W.ownsRow B e size v n xs) : ∃ a c, v = .slice a n c := by
  rcases h.2 with h | ⟨g, cp, _, e, _⟩
  · exact ⟨none, 0, by rw [h.1, h.2]⟩
  · exact ⟨_, _, e⟩
theorem Src.keep {sb : Nat} {w w' : World} (h : Src sb w) (hb : ∀ k, k ≤ sb → w'.heap[k]? = w.heap[k]?) : Src sb w' := by
  obtain ⟨a, len, cap, at_, mix, size, ⟨c0, c1, c2, c3, f0, f1, f2, f3⟩, h1, h2, h3, h4, h5, h6⟩ := h
  have ce : ∀ o, w'.cell? ⟨sb, o, none⟩ = w.cell? ⟨sb, o, none⟩ := fun o => World.cell?_of_block (hb sb (Nat.le_refl _))
  have fe : ∀ o, w'.frozen? ⟨sb, o, none⟩ = w.frozen? ⟨sb, o, none⟩ := fun o => World.frozen?_of_block (hb sb (Nat.le_refl _))
  refine ⟨a, len, cap, at_, mix, size, ⟨(ce 0).trans c0, (ce 1).trans c1, (ce 2).trans c2, (ce 3).trans c3, (fe 0).trans f0, (fe 1).trans f1, (fe 2).trans f2, (fe 3).trans f3⟩, h1, h2, h3, h4, h5, fun i hi => ?_⟩
  obtain ⟨cb, co, z, e, hne, hc, z0, z1⟩ := h6 i hi
  exact ⟨cb, co, z, e, hne, (World.cell?_of_block (a := ⟨cb, co + i, none⟩) (hb cb (by omega))).trans hc, z0, z1⟩

set_option maxHeartbeats 1000000 in
theorem dbetween_any (sb : Nat) (w : World) (h : Src sb w) :
    Calls Tryz.prog 63 #[.pointer (some ⟨sb, 0, none⟩), .int .i64 0, .int .i64 1] w fun e w' => (∃ v, e = .returned (.int .i64 v)) ∧ Drew sb w w' := by
  have H : Hid (Src sb w) := h
  clear h
  go_enter Tryz.func63, Tryz.ntmps63
  go_wp2_with fail
  refine (n_any sb _ _ H.out (by omega)).mono ?_
  rintro e w' ⟨⟨v, rfl, v0, v1, _⟩, hD⟩
  have HD : Hid (Drew sb w w') := hD
  clear hD
  have v2 := v1 (by omega)
  clear v1
  go_wp2_with fail
  go_ret
  exact ⟨⟨_, rfl⟩, HD.out⟩

/-- What the drawing of a list keeps: the list so far, the source, the old memory. -/
def DL (w : World) (sb : Nat) (v : Value) (zs : List Int) (W : World) : Prop := W.ownsRow w.heap.size 2 1 v zs.length (zs.map (Value.int .i64)) ∧ Drew sb w W ∧ sb < w.heap.size
theorem DL.draw {w : World} {sb : Nat} {v : Value} {zs : List Int} {W W' : World} (h : DL w sb v zs W) (hd : Drew sb W W') : DL w sb v zs W' :=
  ⟨d_far h.1 (fun k hk hl => hd.2.2.2.2.2 k hl (by have := (h.1.lt k hk).1; have := h.2.2; omega)), ⟨hd.1, h.2.1.2.trans hd.2⟩, h.2.2⟩
theorem DL.push {w : World} {sb : Nat} {v v' : Value} {zs : List Int} {x : Int} {W W' : World} {o : Obj} (h : DL w sb v zs W) (hg : (W.alloc o).grownBy W' v.ownBlock)
    (hown : W'.ownsRow w.heap.size 2 1 v' (zs.length + 1) (zs.map (Value.int .i64) ++ [.int .i64 x])) : DL w sb v' (zs ++ [x]) W' := by
  have hz := h.2.1.2.size
  have hrow : ∀ k, v.ownBlock = some k → w.heap.size ≤ k := fun k e => (h.1.lt k e).1
  have hk : ∀ k, k < w.heap.size → W'.heap[k]? = W.heap[k]? := fun k hk => by
    rw [hg.block k (by simp; omega) (fun e => by have := hrow k e.symm; omega)]
    exact blk_alloc_lt _ _ _ (by omega)
  refine ⟨by simpa using hown, ⟨h.2.1.1.keep (fun k hk2 => hk k (by have := h.2.2; omega)), ?_⟩, h.2.2⟩
  exact ⟨hg.os.trans h.2.1.2.1, hg.tape.trans h.2.1.2.2.1, hg.output.trans h.2.1.2.2.2.1, by have := hg.size; simp at this; omega, fun k hk1 hk2 => (hk k hk1).trans (h.2.1.2.2.2.2.2 k hk1 hk2)⟩
theorem dl_start {w : World} {sb : Nat} (h : Src sb w) : DL w sb (.slice (some ⟨w.heap.size, 0, none⟩) 0 0) [] (w.alloc (.cells #[] 2)) :=
  ⟨World.ownsRow_made w #[] 0 (Nat.le_refl _) (Nat.zero_le _) rfl, ⟨h.below ((Below.refl _ _).alloc (Nat.le_refl _) _), Chg.of_below ((Below.refl _ _).alloc (Nat.le_refl _) _)⟩, h.lt⟩

set_option maxRecDepth 100000 in
set_option maxHeartbeats 2000000 in
theorem dlist_any (sb N : Nat) (hN : N ≤ 1000) (w : World) (h : Src sb w) :
    Calls Tryz.prog 40 #[.pointer (some ⟨sb, 0, none⟩), .int .i64 N, .int .i64 0, .int .i64 1] w fun e w' => ∃ v, e = .returned v ∧ ∃ zs : List Int, zs.length = N ∧ DL w sb v zs w' := by
  have H : Hid (Src sb w) := h
  have hlt := h.lt
  clear h
  obtain ⟨i0, hi, hz0, hz1, hz2⟩ := info_parts pdinfo
  go_enter Tryz.func40, Tryz.ntmps40
  go_wp2_with fail
  go_loopw [1, 9] (fun nv ov wr => ∃ (m : Nat) (zs : List Int), nv = .int .i64 m ∧ m ≤ 1000 ∧ Hid (m + zs.length = N) ∧ Hid (DL w sb ov zs wr)) (fun nv _ _ => (intOf nv).toNat)
  case atStart => exact ⟨N, [], rfl, hN, by show _ = _; simp, dl_start H.out⟩
  case round =>
    obtain ⟨m, zs, rfl, m1, hm, hF⟩ := hrel
    obtain ⟨av, cv, rfl⟩ := d_shape hF.out.1
    by_cases hlt2 : 0 < m
    · have hltz : 0 < (m : Int) := by omega
      go_wp2_with fail
      refine (dbetween_any sb _ hF.out.2.1.1).mono ?_
      rintro e w1 ⟨⟨x, rfl⟩, hD⟩
      have HF1 : Hid (DL w sb _ zs w1) := hF.out.draw hD
      clear hD hF
      go_wp2_with (at_builtin; refine wpList_append_own _ rfl _ _ 24 rfl w.heap.size 2 i0 (.int .i64 0) 1 8 Tryz.underlying24 hi hz0 hz1 hz2 rfl (by decide) _ _ _ rfl (HF1.out.1.alloc _) ⟨w1.heap.size, 0, none⟩ 1 1 [.int .i64 x] rfl rfl ?c1 ?c2 ?c3 ?c4 ?c5 ?_)
      try (case c1 => (intro j u hj; match j, hj with
        | 0, hj => (simp at hj; subst hj; simp [Addr.add])))
      try (case c2 => first | rfl | (intro u hu; simp at hu; subst hu; rfl))
      try (case c3 => (have := hm.out; unfold maxLen; omega))
      try (case c4 => (have := hm.out; omega))
      try (case c5 => (have := HF1.out.2.1.2.size; first | omega | (simp; omega)))
      intro v' w2 hown hgrow hnil
      have HF2 : Hid (DL w sb v' (zs ++ [x]) w2) := HF1.out.push hgrow hown
      clear hown hgrow hnil HF1
      go_wp2_with fail
      go_roundw
      case rel => exact ⟨m - 1, zs ++ [x], by go_num, by omega, by show _ = _; have := hm.out; simp; omega, HF2⟩
      case measure => simp [intOf]; omega
    · obtain rfl : m = 0 := by omega
      go_wp2_with fail
      go_ret
      exact ⟨_, rfl, zs, by have := hm.out; omega, hF.out⟩

theorem DL.alloc {w : World} {sb : Nat} {v : Value} {zs : List Int} {W : World} (h : DL w sb v zs W) (o : Obj) : DL w sb v zs (W.alloc o) := by
  have hb : Below W.heap.size W (W.alloc o) := (Below.refl _ _).alloc (Nat.le_refl _) _
  exact ⟨h.1.alloc _, ⟨h.2.1.1.below hb, h.2.1.2.trans (Chg.of_below hb)⟩, h.2.2⟩
set_option maxRecDepth 100000 in
set_option maxHeartbeats 2000000 in
theorem drising_any (sb N : Nat) (of_ : Int) (hN : N ≤ 1000) (hof : of_ ≤ 1000) (w : World) (h : Src sb w) :
    Calls Tryz.prog 61 #[.pointer (some ⟨sb, 0, none⟩), .int .i64 N, .int .i64 of_] w fun e w' => ∃ v, e = .returned v ∧ ∃ zs : List Int, zs.length ≤ N ∧ DL w sb v zs w' := by
  have H : Hid (Src sb w) := h
  have hlt := h.lt
  clear h
  obtain ⟨i0, hi, hz0, hz1, hz2⟩ := info_parts pdinfo
  go_enter Tryz.func61, Tryz.ntmps61
  go_wp2_with fail
  go_loopw [7, 8] (fun ov iv wr => ∃ (i : Nat) (zs : List Int), iv = .int .i64 i ∧ i ≤ N ∧ Hid (zs.length ≤ i) ∧ Hid (DL w sb ov zs wr)) (fun _ iv _ => N - (intOf iv).toNat)
  case atStart => exact ⟨0, [], rfl, Nat.zero_le _, by show _ ≤ _; simp, dl_start H.out⟩
  case round =>
    obtain ⟨i, zs, rfl, hiN, hm, hF⟩ := hrel
    obtain ⟨av, cv, rfl⟩ := d_shape hF.out.1
    by_cases hlt2 : i < N
    · have hltz : (i : Int) < (N : Int) := by omega
      go_wp2_with fail
      refine (one_any sb of_ _ hF.out.2.1.1 (by omega)).mono ?_
      rintro e w1 ⟨⟨bb, rfl⟩, hD⟩
      have HF1 : Hid (DL w sb _ zs w1) := hF.out.draw hD
      clear hD hF
      cases bb with
      | false =>
        go_wp2_with fail
        go_roundw
        case rel => exact ⟨i + 1, zs, by go_num, by omega, Nat.le_succ_of_le hm.out, HF1⟩
        case measure => simp [intOf]; omega
      | true =>
        go_wp2_with (at_builtin; refine wpList_append_own _ rfl _ _ 24 rfl w.heap.size 2 i0 (.int .i64 0) 1 8 Tryz.underlying24 hi hz0 hz1 hz2 rfl (by decide) _ _ _ rfl (HF1.out.1.alloc _) ⟨w1.heap.size, 0, none⟩ 1 1 [.int .i64 (i : Nat)] rfl rfl ?c1 ?c2 ?c3 ?c4 ?c5 ?_)
        try (case c1 => (intro j u hj; match j, hj with
          | 0, hj => (simp at hj; subst hj; simp [Addr.add])))
        try (case c2 => first | rfl | (intro u hu; simp at hu; subst hu; rfl))
        try (case c3 => (have := hm.out; unfold maxLen; omega))
        try (case c4 => (have := hm.out; omega))
        try (case c5 => (have := HF1.out.2.1.2.size; first | omega | (simp; omega)))
        intro v' w2 hown hgrow hnil
        have HF2 : Hid (DL w sb v' (zs ++ [(i : Int)]) w2) := HF1.out.push hgrow hown
        clear hown hgrow hnil HF1
        go_wp2_with fail
        go_roundw
        case rel => exact ⟨i + 1, zs ++ [(i : Int)], by go_num, by omega, by show _ ≤ _; have := hm.out; simp; omega, HF2⟩
        case measure => simp [intOf]; omega
    · obtain rfl : i = N := by omega
      go_wp2_with fail
      go_ret
      exact ⟨_, rfl, zs, hm.out, hF.out⟩
theorem pdrew_set {sb g i : Nat} {w V : World} {v : Value} (h : Drew sb w V) (h1 : sb < w.heap.size) (h2 : w.heap.size ≤ g) : Drew sb w (V.setCell ⟨g, i, none⟩ v) := by
  have hk : ∀ k, k ≠ g → (V.setCell ⟨g, i, none⟩ v).heap[k]? = V.heap[k]? := fun k hk => Below.heap_setCell _ _ _ _ hk
  exact ⟨h.1.keep (fun k hk2 => hk k (by omega)), ⟨h.2.1, h.2.2.1, h.2.2.2.1, by have := h.2.2.2.2.1; simpa using this, fun k hk2 hn => (hk k (by omega)).trans (h.2.2.2.2.2 k hk2 hn)⟩⟩
theorem pdrew_bel {sb : Nat} {w V V' : World} (h : Drew sb w V) (hb : Below V.heap.size V V') : Drew sb w V' := ⟨h.1.below hb, h.2.trans (Chg.of_below hb)⟩
theorem pdrew_more {sb : Nat} {w V V' : World} (h : Drew sb w V) (hd : Drew sb V V') : Drew sb w V' := ⟨hd.1, h.2.trans hd.2⟩
set_option maxHeartbeats 1000000 in
theorem pdpick_any (sb b n cap : Nat) (hn : 0 < n) (hn2 : n ≤ 1000) (w : World) (h : Src sb w) (hb : b ≠ sb) (hc : ∀ i, i < n → ∃ s, w.cell? ⟨b, i, none⟩ = some (.string s) ∧ s.size ≤ 64) :
    Calls Tryz.prog 62 #[.pointer (some ⟨sb, 0, none⟩), .slice (some ⟨b, 0, none⟩) n cap] w fun e w' => (∃ s, e = .returned (.string s) ∧ s.size ≤ 64) ∧ Drew sb w w' := by
  have H : Hid (Src sb w) := h
  have HC := Lib.hid hc
  clear h hc
  go_enter Tryz.func62, Tryz.ntmps62
  go_wp2_with fail
  refine (n_any sb n _ H.out (by omega)).mono ?_
  rintro e w1 ⟨⟨v, rfl, v0, v1, v2⟩, hD⟩
  have v3 : v < n := by
    by_cases k : (1 : Int) < n
    · exact v1 k
    · have := v2 (by omega); omega
  obtain ⟨s, hs, hz⟩ := HC.out v.toNat (by omega)
  have hs1 : w1.cell? ⟨b, v.toNat, none⟩ = some (.string s) := (hD.2.cell (p := ⟨b, v.toNat, none⟩) (World.block_lt_of_cell? _ _ hs) hb).trans hs
  have HD : Hid (Drew sb w w1) := hD
  have HZ := Lib.hid hz
  clear hD v1 v2 hs hz
  go_wp2_with fail
  go_ret
  exact ⟨⟨_, rfl, HZ.out⟩, HD.out⟩
end Go.Proofs.YtogfjomfhenhfaaGreatDoor
