/-
  A master takes a note: the program's.
-/
import Derived.Test.YtighcbpcclifoaaGreatDoorLnNo
import Derived.BigQuiet
import Derived.Deep.QuietTactic
namespace Go.Proofs.YtighcbpcclifoaaGreatDoor
open Go.RowKit Go.Deep

theorem own_ne2 {T T' : TypeId} {B n X m : Nat} {v : Value} {xs : List Value} {G : Nat → Value} {W : World} (h : W.ownsRow B T 2 v n xs) (hx : W.rowIs X T' m G) (hT : T ≠ T') : v.ownBlock ≠ some X := by
  intro e
  rcases h.2 with ⟨rfl, _⟩ | ⟨g, cap, cur, rfl, e2, e3, e4⟩
  · cases e
  · cases e
    obtain ⟨_, q1, _⟩ := hx
    have e3' : W.heap[g]? = _ := e3
    rw [q1] at e3'
    simp at e3'
    exact hT e3'.2.symm
theorem ownR_keep {B n size : Nat} {e : TypeId} {v : Value} {xs : List Value} {W W' : World} (h : W.ownsRow B e size v n xs) (hb : ∀ k, v.ownBlock = some k → k < W.heap.size → W'.heap[k]? = W.heap[k]?) : W'.ownsRow B e size v n xs := by
  refine ⟨h.1, ?_⟩
  rcases h.2 with h2 | ⟨g, cap, cur, e1, e2, e3, e4⟩
  · exact Or.inl h2
  · refine Or.inr ⟨g, cap, cur, e1, e2, ?_, e4⟩
    rw [hb g (by rw [e1]; rfl) (by
      rcases Nat.lt_or_ge g W.heap.size with h | h
      · exact h
      · rw [Array.getElem?_eq_none h] at e3; cases e3)]
    exact e3
/-- A master in a block, its notes in memory of the call's own; what lies below, and rows of other types, stay. -/
structure MaS (p B : Nat) (r : List Value) (L : List Ln.Nt) (a : Option Addr) (k : Nat) (w W : World) : Prop where
  row : W.rowIs p 30 3 (rowN r)
  own : W.ownsRow B 37 2 (.slice a L.length k) L.length (nvs L)
  bel : Below p w W
  oth : ∀ j T n F, w.rowIs j T n F → 37 ≠ T → j ≠ p → W.rowIs j T n F
  num : p < B ∧ B ≤ W.heap.size
theorem MaS.below {p B : Nat} {r : List Value} {L : List Ln.Nt} {a : Option Addr} {k : Nat} {w W W' : World} (h : MaS p B r L a k w W) (hb : Below W.heap.size W W') : MaS p B r L a k w W' := by
  have h1 := h.num
  exact ⟨nrow_below h.row hb, ownR_keep h.own (fun q _ hq => hb.block q hq), h.bel.trans (hb.mono (by omega)), fun j T n F a b c => nrow_below (h.oth j T n F a b c) hb, h1.1, Nat.le_trans h1.2 hb.size⟩
theorem MaS.set {p B : Nat} {r : List Value} {L : List Ln.Nt} {a : Option Addr} {k : Nat} {w W : World} (h : MaS p B r L a k w W) (i : Nat) (x : Value) (hi : i < r.length) : MaS p B (r.set i x) L a k w (W.setCell ⟨p, i, none⟩ x) := by
  have h1 := h.num
  exact ⟨rowN_put h.row i x hi, ownR_keep h.own (fun q hq _ => bihs _ _ _ (by have := (h.own.lt q hq).1; omega) _ _), h.bel.setCell (p := ⟨p, i, none⟩) (Nat.le_refl _) _, fun j T n F a b c => nrow_set (h.oth j T n F a b c) (p := ⟨p, i, none⟩) c _, h1.1, by simpa using h1.2⟩
theorem MaS.push {p B : Nat} {r : List Value} {L L' : List Ln.Nt} {a a' : Option Addr} {k k' : Nat} {w W W' : World} (h : MaS p B r L a k w W) (hg : W.grownBy W' (Value.slice a L.length k).ownBlock) (hown : W'.ownsRow B 37 2 (.slice a' L'.length k') L'.length (nvs L')) : MaS p B r L' a' k' w W' := by
  have h1 := h.num
  have ob : ∀ q, (Value.slice a L.length k).ownBlock = some q → B ≤ q := fun q hq => (h.own.lt q hq).1
  refine ⟨h.row.of_block (hg.block _ h.row.lt (fun e => by have := ob _ e.symm; omega)), hown, h.bel.grown hg (by omega) (fun q hq => by have := ob q hq; omega), fun j T n F b c d => ?_, h1.1, Nat.le_trans h1.2 hg.size⟩
  have hj := h.oth j T n F b c d
  exact hj.of_block (hg.block _ hj.lt (fun e => own_ne2 h.own hj c e.symm))
theorem MaS.trans {p B : Nat} {r r' : List Value} {L L' : List Ln.Nt} {a a' : Option Addr} {k k' : Nat} {w W W' : World} (h : MaS p B r L a k w W) (h' : MaS p B r' L' a' k' W W') : MaS p B r' L' a' k' w W' :=
  ⟨h'.row, h'.own, h.bel.trans h'.bel, fun j T n F b c d => h'.oth j T n F (h.oth j T n F b c d) c d, h'.num⟩
set_option maxRecDepth 100000 in
set_option maxHeartbeats 8000000 in
theorem take_any (p B : Nat) (m : Ln.M) (a : Option Addr) (k : Nat) (q v : Int) (w : World) (hr : w.rowIs p 30 3 (rowN (maL m a k))) (hown : w.ownsRow B 37 2 (.slice a m.notes.length k) m.notes.length (nvs m.notes)) (hp : p < B) (hB : B ≤ w.heap.size) (hm : m.Mid) (hq0 : 0 ≤ q) (hq1 : q ≤ 65535) :
    Calls Tryz.prog 99 #[.pointer (some ⟨p, 0, none⟩), .agg #[.int .i64 q, .int .i64 v]] w fun e w' => e = .returned (.tuple #[]) ∧ ∃ a' k', MaS p B (maL (m.put (q, v)) a' k') (m.put (q, v)).notes a' k' w w' := by
  obtain ⟨i0, hi, hz0, hz1, hz2⟩ := info_parts linfo_note
  obtain ⟨W, hW⟩ : ∃ W, W = w.alloc (.cells #[.int .i64 q, .int .i64 v] 37) := ⟨_, rfl⟩
  have hbW : Below w.heap.size w W := by rw [hW]; exact nbel_alloc _ _
  have S0 : Hid (MaS p B (maL m a k) m.notes a k w w) := ⟨hr, hown, Below.refl _ _, fun _ _ _ _ h _ _ => h, hp, hB⟩
  have S1 := Lib.hid (S0.out.below hbW)
  have HN : Hid (W.rowIs w.heap.size 37 2 (rowN [.int .i64 q, .int .i64 v])) := by show W.rowIs _ _ _ _; rw [hW]; exact rowN_alloc w _ _
  have HW := Lib.hid hW
  obtain ⟨⟨m1, m2⟩, m3, m4, m5⟩ := hm
  have hpw : p < w.heap.size := hr.lt
  have XN0 := Lib.hid (fun q (h : (Value.slice a m.notes.length k).ownBlock = some q) => (hown.lt q h).2)
  clear hW hbW hr hown S0
  obtain ⟨N, hN⟩ : ∃ N, N = m.notes.length := ⟨_, rfl⟩
  have HNN := Lib.hid hN
  rw [← hN] at m3
  have hNz : (N : Int) ≤ 200 := by omega
  obtain ⟨⟨x0, x1, x2⟩, f0, f1, f2⟩ := rowN3 S1.out.row
  obtain ⟨⟨y0, y1⟩, _⟩ := rowN2 HN.out
  rw [← hN] at x1
  have hl0 := S1.out.row.lt
  have hl1 := HN.out.lt
  clear hN
  obtain ⟨X, hX⟩ : ∃ X, X = w.heap.size := ⟨_, rfl⟩
  have HX := Lib.hid hX
  have hXp : ¬ X = p := by omega
  have hXp' : ¬ p = X := by omega
  rw [← hX] at HN y0 y1 hl1 XN0
  clear hX
  by_cases c1 : q ≤ m.seq
  · have d1 : decide (q ≤ m.seq) = true := by simpa using c1
    have HE : Hid (m.put (q, v) = m) := by show _ = _; unfold Ln.M.put; rw [if_neg (fun h => by have := h.1; simp only at this; omega)]
    clear c1
    go_enter Tryz.func99, Tryz.ntmps99
    go_wp2_with fail
    rw [← HW.out, ← HX.out]
    go_quiet (fail)
    go_wp2_with fail
    exact bodyPost_ret (v := .tuple #[]) (by simp [results, Tryz.results99, go_sem]) rfl ⟨rfl, a, k, by rw [HE.out]; exact S1.out.below (ndrewN (Below.refl _ _) _)⟩
  have d1 : decide (q ≤ m.seq) = false := by simpa using c1
  by_cases c2 : 200 ≤ N
  · have d2 : decide ((200 : Int) ≤ (N : Int)) = true := by simp; omega
    have HE : Hid (m.put (q, v) = m) := by show _ = _; unfold Ln.M.put; rw [if_neg (fun h => by have := h.2; have := HNN.out; omega)]
    clear c1 c2
    go_enter Tryz.func99, Tryz.ntmps99
    go_wp2_with fail
    rw [← HW.out, ← HX.out]
    go_quiet (fail)
    go_wp2_with fail
    exact bodyPost_ret (v := .tuple #[]) (by simp [results, Tryz.results99, go_sem]) rfl ⟨rfl, a, k, by rw [HE.out]; exact S1.out.below (ndrewN (Below.refl _ _) _)⟩
  have d2 : decide ((200 : Int) ≤ (N : Int)) = false := by simp; omega
  have HE : Hid (m.put (q, v) = ⟨q, m.notes ++ [(q, v)], m.gaps + q - m.seq - 1⟩) := by show _ = _; unfold Ln.M.put; rw [if_pos ⟨by simp only; omega, by have := HNN.out; omega⟩]
  have e1 : IntKind.i64.wrap (q - m.seq) = q - m.seq := lnwrap (by omega) (by omega)
  have e2 : IntKind.i64.wrap (q - m.seq - 1) = q - m.seq - 1 := lnwrap (by omega) (by omega)
  have e3 : IntKind.i64.wrap (m.gaps + (q - m.seq - 1)) = m.gaps + (q - m.seq - 1) := lnwrap (by omega) (by omega)
  clear c1 c2
  go_enter Tryz.func99, Tryz.ntmps99
  go_wp2_with fail
  rw [← HW.out, ← HX.out]
  clear HW HX
  go_quiet (fail)
  obtain ⟨V, hV⟩ : ∃ V, V = W.drewN nq := ⟨_, rfl⟩
  have hbV : Below W.heap.size W V := by rw [hV]; exact ndrewN (Below.refl _ _) _
  rw [← hV]
  have S2 := Lib.hid (S1.out.below hbV)
  have HN2 := Lib.hid (nrow_below HN.out hbV)
  clear hV hbV S1 HN x0 x1 x2 f0 f1 f2 y0 y1 hl0 hl1
  obtain ⟨⟨x0, x1, x2⟩, f0, f1, f2⟩ := rowN3 S2.out.row
  obtain ⟨⟨y0, y1⟩, _⟩ := rowN2 HN2.out
  rw [← HNN.out] at x1
  have hl0 := S2.out.row.lt
  have hl1 := HN2.out.lt
  go_wp2_with fail
  go_region
  obtain ⟨U, hU⟩ : ∃ U, U = (V.setCell ⟨p, 2, none⟩ (.int .i64 (m.gaps + (q - m.seq - 1)))).drew := ⟨_, rfl⟩
  rw [← hU]
  have S3 : Hid (MaS p B [.int .i64 m.seq, .slice a m.notes.length k, .int .i64 (m.gaps + (q - m.seq - 1))] m.notes a k w U) := by show MaS _ _ _ _ _ _ _ _; rw [hU]; exact (S2.out.set 2 _ (by simp)).below (Below.refl _ _).drew
  have HN3 : Hid (U.rowIs X 37 2 (rowN [.int .i64 q, .int .i64 v])) := by show World.rowIs _ _ _ _ _; rw [hU]; exact (nrow_set HN2.out (p := ⟨p, 2, none⟩) hXp _).of_block rfl
  clear hU S2 HN2 x0 x1 x2 f0 f1 f2 y0 y1 hl0 hl1
  obtain ⟨⟨x0, x1, x2⟩, f0, f1, f2⟩ := rowN3 S3.out.row
  obtain ⟨⟨y0, y1⟩, _⟩ := rowN2 HN3.out
  have hl0 := S3.out.row.lt
  have hl1 := HN3.out.lt
  obtain ⟨U2, hU2⟩ : ∃ U2, U2 = U.setCell ⟨p, 0, none⟩ (.int .i64 q) := ⟨_, rfl⟩
  have S4 : Hid (MaS p B [.int .i64 q, .slice a m.notes.length k, .int .i64 (m.gaps + (q - m.seq - 1))] m.notes a k w U2) := by show MaS _ _ _ _ _ _ _ _; rw [hU2]; exact S3.out.set 0 _ (by simp)
  have HN4 : Hid (U2.rowIs X 37 2 (rowN [.int .i64 q, .int .i64 v])) := by show World.rowIs _ _ _ _ _; rw [hU2]; exact nrow_set HN3.out (p := ⟨p, 0, none⟩) hXp _
  have HU2 := Lib.hid hU2
  clear hU2 S3 HN3
  go_wp2_with fail
  rw [← HU2.out]
  clear HU2 x0 x1 x2 f0 f1 f2 y0 y1 hl0 hl1
  refine wp_region_held_drew (S := fun Y => Y.rowIs X 37 2 (rowN [.int .i64 q, .int .i64 v])) (by kernel_rfl) (HN4.out.of_block rfl) (fun hHeld => ?_)
  obtain ⟨Z, hZ⟩ : ∃ Z, Z = U2.drew := ⟨_, rfl⟩
  have SZ : Hid (MaS p B [.int .i64 q, .slice a m.notes.length k, .int .i64 (m.gaps + (q - m.seq - 1))] m.notes a k w Z) := by show MaS _ _ _ _ _ _ _ _; rw [hZ]; exact S4.out.below (Below.refl _ _).drew
  rw [← hZ] at hHeld ⊢
  clear hZ S4 HN4
  refine take_do (i := 0) (v := (.pointer (some ⟨p, 0, none⟩))) rfl (by kernel_rfl) (by kernel_rfl) (by kernel_rfl) (fun _ _ _ h => h) (by rfl) ?_ (by assumption) ?_
  · intro w hSw
    go_simp
  simp only [Act.put, List.setIfInBounds_toArray, List.set_cons_zero, List.set_cons_succ]
  refine take_do (i := 1) (v := (.pointer (some ⟨p, 0, none⟩))) rfl (by kernel_rfl) (by kernel_rfl) (by kernel_rfl) (fun _ _ _ h => h) (by rfl) ?_ (by assumption) ?_
  · intro w hSw
    go_simp
  simp only [Act.put, List.setIfInBounds_toArray, List.set_cons_zero, List.set_cons_succ]
  refine take_do (i := 2) (v := (.pointer (some ⟨p, 0, none⟩))) rfl (by kernel_rfl) (by kernel_rfl) (by kernel_rfl) (fun _ _ _ h => h) (by rfl) ?_ (by assumption) ?_
  · intro w hSw
    go_simp
  simp only [Act.put, List.setIfInBounds_toArray, List.set_cons_zero, List.set_cons_succ]
  refine take_do (i := 3) (v := (.pointer (some ⟨p, 1, none⟩))) rfl (by kernel_rfl) (by kernel_rfl) (by kernel_rfl) (fun _ _ _ h => h) (by rfl) ?_ (by assumption) ?_
  · intro w hSw
    go_simp
  simp only [Act.put, List.setIfInBounds_toArray, List.set_cons_zero, List.set_cons_succ]
  refine take_do (i := 5) (v := (.agg #[.int .i64 q, .int .i64 v])) rfl (by kernel_rfl) (by kernel_rfl) (by kernel_rfl) (fun _ _ _ h => h) (by rfl) ?_ (by assumption) ?_
  · intro w hSw
    obtain ⟨⟨q0, q1⟩, _⟩ := rowN2 hSw
    go_simp
  simp only [Act.put, List.setIfInBounds_toArray, List.set_cons_zero, List.set_cons_succ]
  refine wpAnyH_ready (rs := [4, 6]) (by kernel_rfl) (by simp) (AllReadyH.cons (at_drop (i := 4) rfl) (fun K2 hK => ?_) (AllReadyH.cons (at_drop (i := 6) rfl) (fun K2 hK => ?_) AllReadyH.nil))
  · obtain ⟨⟨x0, x1, x2⟩, _⟩ := rowN3 SZ.out.row
    rw [← HNN.out] at x1
    go_simp
    refine hK.out _ _ hHeld (fun hHeld2 => ?_)
    clear hK hHeld x0 x1 x2
    have hHeld := hHeld2
    clear hHeld2
    refine take_call (i := 6) rfl (by kernel_rfl) (fun K2 hK => ?_)
    obtain ⟨Z1, hZ1⟩ : ∃ Z1, Z1 = Z.alloc (.cells #[.int .i64 q, .int .i64 v] 37) := ⟨_, rfl⟩
    have hb : Below Z.heap.size Z Z1 := by rw [hZ1]; exact nbel_alloc _ _
    obtain ⟨gx, hgx⟩ : ∃ gx, gx = Z.heap.size := ⟨_, rfl⟩
    have HM1 : Hid (IsIn (some ⟨gx, 0, none⟩) (([(q, v)] : List Ln.Nt).length * 2) (Ln.fl [(q, v)]) Z1) := by show IsIn _ _ _ _; rw [hZ1, hgx]; exact one_in Z 37 q v
    have SZ1 := Lib.hid (SZ.out.below hb)
    go_simp
    rw [← hZ1, ← hgx]
    refine hK.out _ _ (nrow_below hHeld hb) (fun hHeld2 => ?_)
    clear hK hHeld hb hZ1 hgx
    have hHeld := hHeld2
    clear hHeld2
    refine take_call (i := 7) rfl (by kernel_rfl) (fun K2 hK => ?_)
    refine step_append_ns rfl (.tmp 43) (.tmp 45) 26 rfl 37 i0 (.agg #[.int .i64 0, .int .i64 0]) 16 Tryz.underlying26 hi hz0 hz1 hz2 rfl B (.slice a N k) m.notes [(q, v)] rfl (by rw [HNN.out]; exact SZ1.out.own) (some ⟨gx, 0, none⟩) 1 rfl HM1.out (by unfold maxLen; rw [← HNN.out]; simp; omega) (by rw [← HNN.out]; simp; omega) SZ1.out.num.2 ?_
    intro v6 Z2 hown hgrow
    obtain ⟨L2, hL2⟩ : ∃ L2, L2 = m.notes ++ [(q, v)] := ⟨_, rfl⟩
    have hown2 : Z2.ownsRow B 37 2 v6 L2.length (nvs L2) := by rw [hL2]; exact hown
    rw [HNN.out] at hgrow
    obtain ⟨a6, k6, rfl, _, _⟩ := own_ns hown2
    have S5 := Lib.hid (SZ1.out.push hgrow hown2)
    have hX2 : Z2.rowIs X 37 2 (rowN [.int .i64 q, .int .i64 v]) := hHeld.of_block (hgrow.block _ hHeld.lt (fun e => Nat.lt_irrefl _ (XN0.out _ e.symm)))
    refine hK.out _ _ hX2 (fun hHeld2 => ?_)
    clear hK hHeld hown hown2 hgrow SZ SZ1 HM1 hX2
    have hHeld := hHeld2
    clear hHeld2
    simp only [Act.put, List.setIfInBounds_toArray, List.set_cons_zero, List.set_cons_succ]
    refine take_do (i := 8) (v := (.pointer (some ⟨p, 0, none⟩))) rfl (by kernel_rfl) (by kernel_rfl) (by kernel_rfl) (fun _ _ _ h => h) (by rfl) ?_ (by assumption) ?_
    · intro w hSw
      go_simp
    simp only [Act.put, List.setIfInBounds_toArray, List.set_cons_zero, List.set_cons_succ]
    refine take_do (i := 9) (v := (.pointer (some ⟨p, 1, none⟩))) rfl (by kernel_rfl) (by kernel_rfl) (by kernel_rfl) (fun _ _ _ h => h) (by rfl) ?_ (by assumption) ?_
    · intro w hSw
      go_simp
    simp only [Act.put, List.setIfInBounds_toArray, List.set_cons_zero, List.set_cons_succ]
    obtain ⟨⟨z0, z1, z2⟩, p0, p1, p2⟩ := rowN3 S5.out.row
    have hl2 := S5.out.row.lt
    obtain ⟨WZ, hWZ⟩ : ∃ WZ, WZ = Z2.setCell ⟨p, 1, none⟩ (.slice a6 L2.length k6) := ⟨_, rfl⟩
    have S6 : Hid (MaS p B [.int .i64 q, .slice a6 L2.length k6, .int .i64 (m.gaps + (q - m.seq - 1))] L2 a6 k6 w WZ) := by show MaS _ _ _ _ _ _ _ _; rw [hWZ]; exact S5.out.set 1 _ (by simp)
    have hX3 : WZ.rowIs X 37 2 (rowN [.int .i64 q, .int .i64 v]) := by rw [hWZ]; exact nrow_set hHeld (p := ⟨p, 1, none⟩) hXp _
    have HWZ := Lib.hid hWZ
    have HL2 := Lib.hid hL2
    obtain ⟨M2, hM2⟩ : ∃ M2, M2 = L2.length := ⟨_, rfl⟩
    rw [← hM2] at HWZ ⊢
    clear hWZ hL2 hM2
    refine take_call (i := 10) rfl (by kernel_rfl) (fun K2 hK => ?_)
    go_simp
    rw [← HWZ.out]
    refine hK.out _ _ hX3 (fun hHeld2 => ?_)
    clear hK hHeld hHeld2 HWZ z0 z1 z2 p0 p1 p2 hl2 hX3 S5
    refine wpAnyH_done (by kernel_rfl) ?_ _
    go_wp2_with fail
    refine bodyPost_end (v := .tuple #[]) (by simp [results, Tryz.results99, go_sem]) rfl ⟨rfl, a6, k6, ?_⟩
    have hs := S6.out
    rw [HL2.out] at hs
    have eg : m.gaps + (q - m.seq - 1) = m.gaps + q - m.seq - 1 := by omega
    rw [eg] at hs
    rw [HE.out]
    exact hs
  · obtain ⟨Z1, hZ1⟩ : ∃ Z1, Z1 = Z.alloc (.cells #[.int .i64 q, .int .i64 v] 37) := ⟨_, rfl⟩
    have hb : Below Z.heap.size Z Z1 := by rw [hZ1]; exact nbel_alloc _ _
    obtain ⟨gx, hgx⟩ : ∃ gx, gx = Z.heap.size := ⟨_, rfl⟩
    have HM1 : Hid (IsIn (some ⟨gx, 0, none⟩) (([(q, v)] : List Ln.Nt).length * 2) (Ln.fl [(q, v)]) Z1) := by show IsIn _ _ _ _; rw [hZ1, hgx]; exact one_in Z 37 q v
    have SZ1 := Lib.hid (SZ.out.below hb)
    go_simp
    rw [← hZ1, ← hgx]
    refine hK.out _ _ (nrow_below hHeld hb) (fun hHeld2 => ?_)
    clear hK hHeld hb hZ1 hgx
    have hHeld := hHeld2
    clear hHeld2
    refine take_call (i := 4) rfl (by kernel_rfl) (fun K2 hK => ?_)
    obtain ⟨⟨x0, x1, x2⟩, _⟩ := rowN3 SZ1.out.row
    rw [← HNN.out] at x1
    go_simp
    refine hK.out _ _ hHeld (fun hHeld2 => ?_)
    clear hK hHeld x0 x1 x2
    have hHeld := hHeld2
    clear hHeld2
    refine take_call (i := 7) rfl (by kernel_rfl) (fun K2 hK => ?_)
    refine step_append_ns rfl (.tmp 43) (.tmp 45) 26 rfl 37 i0 (.agg #[.int .i64 0, .int .i64 0]) 16 Tryz.underlying26 hi hz0 hz1 hz2 rfl B (.slice a N k) m.notes [(q, v)] rfl (by rw [HNN.out]; exact SZ1.out.own) (some ⟨gx, 0, none⟩) 1 rfl HM1.out (by unfold maxLen; rw [← HNN.out]; simp; omega) (by rw [← HNN.out]; simp; omega) SZ1.out.num.2 ?_
    intro v6 Z2 hown hgrow
    obtain ⟨L2, hL2⟩ : ∃ L2, L2 = m.notes ++ [(q, v)] := ⟨_, rfl⟩
    have hown2 : Z2.ownsRow B 37 2 v6 L2.length (nvs L2) := by rw [hL2]; exact hown
    rw [HNN.out] at hgrow
    obtain ⟨a6, k6, rfl, _, _⟩ := own_ns hown2
    have S5 := Lib.hid (SZ1.out.push hgrow hown2)
    have hX2 : Z2.rowIs X 37 2 (rowN [.int .i64 q, .int .i64 v]) := hHeld.of_block (hgrow.block _ hHeld.lt (fun e => Nat.lt_irrefl _ (XN0.out _ e.symm)))
    refine hK.out _ _ hX2 (fun hHeld2 => ?_)
    clear hK hHeld hown hown2 hgrow SZ SZ1 HM1 hX2
    have hHeld := hHeld2
    clear hHeld2
    simp only [Act.put, List.setIfInBounds_toArray, List.set_cons_zero, List.set_cons_succ]
    refine take_do (i := 8) (v := (.pointer (some ⟨p, 0, none⟩))) rfl (by kernel_rfl) (by kernel_rfl) (by kernel_rfl) (fun _ _ _ h => h) (by rfl) ?_ (by assumption) ?_
    · intro w hSw
      go_simp
    simp only [Act.put, List.setIfInBounds_toArray, List.set_cons_zero, List.set_cons_succ]
    refine take_do (i := 9) (v := (.pointer (some ⟨p, 1, none⟩))) rfl (by kernel_rfl) (by kernel_rfl) (by kernel_rfl) (fun _ _ _ h => h) (by rfl) ?_ (by assumption) ?_
    · intro w hSw
      go_simp
    simp only [Act.put, List.setIfInBounds_toArray, List.set_cons_zero, List.set_cons_succ]
    obtain ⟨⟨z0, z1, z2⟩, p0, p1, p2⟩ := rowN3 S5.out.row
    have hl2 := S5.out.row.lt
    obtain ⟨WZ, hWZ⟩ : ∃ WZ, WZ = Z2.setCell ⟨p, 1, none⟩ (.slice a6 L2.length k6) := ⟨_, rfl⟩
    have S6 : Hid (MaS p B [.int .i64 q, .slice a6 L2.length k6, .int .i64 (m.gaps + (q - m.seq - 1))] L2 a6 k6 w WZ) := by show MaS _ _ _ _ _ _ _ _; rw [hWZ]; exact S5.out.set 1 _ (by simp)
    have hX3 : WZ.rowIs X 37 2 (rowN [.int .i64 q, .int .i64 v]) := by rw [hWZ]; exact nrow_set hHeld (p := ⟨p, 1, none⟩) hXp _
    have HWZ := Lib.hid hWZ
    have HL2 := Lib.hid hL2
    obtain ⟨M2, hM2⟩ : ∃ M2, M2 = L2.length := ⟨_, rfl⟩
    rw [← hM2] at HWZ ⊢
    clear hWZ hL2 hM2
    refine take_call (i := 10) rfl (by kernel_rfl) (fun K2 hK => ?_)
    go_simp
    rw [← HWZ.out]
    refine hK.out _ _ hX3 (fun hHeld2 => ?_)
    clear hK hHeld hHeld2 HWZ z0 z1 z2 p0 p1 p2 hl2 hX3 S5
    refine wpAnyH_done (by kernel_rfl) ?_ _
    go_wp2_with fail
    refine bodyPost_end (v := .tuple #[]) (by simp [results, Tryz.results99, go_sem]) rfl ⟨rfl, a6, k6, ?_⟩
    have hs := S6.out
    rw [HL2.out] at hs
    have eg : m.gaps + (q - m.seq - 1) = m.gaps + q - m.seq - 1 := by omega
    rw [eg] at hs
    rw [HE.out]
    exact hs
end Go.Proofs.YtighcbpcclifoaaGreatDoor
