/-
  StationNote: the model's.
-/
import Derived.Test.YtdlojhncbgfjbaaGreatDoorLnI2
import Derived.Test.YtdlojhncbgfjbaaGreatDoorLnS1
namespace Go.Proofs.YtdlojhncbgfjbaaGreatDoor
open Go.RowKit Go.Deep

theorem ownsRow_keep {B C n size : Nat} {e : TypeId} {v : Value} {xs : List Value} {W W' : World} (h : W.ownsRow B e size v n xs) (hB : C ≤ B) (hb : ∀ k, C ≤ k → k < W.heap.size → W'.heap[k]? = W.heap[k]?) : W'.ownsRow B e size v n xs := by
  refine ⟨h.1, ?_⟩
  rcases h.2 with h2 | ⟨g, cap, cur, e1, e2, e3, e4⟩
  · exact Or.inl h2
  · refine Or.inr ⟨g, cap, cur, e1, e2, ?_, e4⟩
    rw [hb g (by omega) (by
      rcases Nat.lt_or_ge g W.heap.size with h | h
      · exact h
      · rw [Array.getElem?_eq_none h] at e3; cases e3)]
    exact e3
theorem ownsRow_bel {B n size : Nat} {e : TypeId} {v : Value} {xs : List Value} {W W' : World} (h : W.ownsRow B e size v n xs) (hb : Below W.heap.size W W') : W'.ownsRow B e size v n xs := ownsRow_keep h (Nat.zero_le _) (fun k _ hk => hb.block k hk)
theorem sabs19_any (n : Int) (w : World) (h0 : -9223372036854775807 ≤ n) (h1 : n ≤ 9223372036854775807) :
    Calls Tryz.prog 21 #[.int .i64 n] w fun e w' => e = .returned (.int .i64 (if n < 0 then -n else n)) ∧ w' = w := by
  by_cases k : n < 0
  · rw [if_pos k]
    go_enter Tryz.func21, Tryz.ntmps21
    go_wp2_with fail
    go_ret
    exact ⟨rfl, rfl⟩
  · rw [if_neg k]
    go_enter Tryz.func21, Tryz.ntmps21
    go_wp2_with fail
    go_ret
    exact ⟨rfl, rfl⟩
set_option maxRecDepth 100000 in
set_option maxHeartbeats 4000000 in
theorem specCopy_any (s : Ln.S) (a : Option Addr) (k : Nat) (w : World) (h : IsIn a (s.wait.length * 2) (Ln.fl s.wait) w) (hn : s.wait.length ≤ 1048576) :
    Calls Tryz.prog 19 #[stV s a k] w fun e w' => (∃ a' k', e = .returned (stV s a' k') ∧ w'.ownsRow w.heap.size 37 2 (.slice a' s.wait.length k') s.wait.length (nvs s.wait)) ∧ Below w.heap.size w w' := by
  obtain ⟨i0, hi, hz0, hz1, hz2⟩ := info_parts linfo_note
  obtain ⟨W, hW⟩ : ∃ W, W = (w.alloc (stO s a k)).alloc stZO := ⟨_, rfl⟩
  have hsz : W.heap.size = w.heap.size + 2 := by rw [hW]; simp
  have HB : Hid (Below w.heap.size w W) := by show Below _ _ _; rw [hW]; exact ((Below.refl _ _).alloc (Nat.le_refl _) _).alloc (by simp) _
  have HX : Hid (W.rowIs w.heap.size 28 7 (rowN (stL s a k))) := by show W.rowIs _ _ _ _; rw [hW]; exact nrow_below (rowN_alloc w (stL s a k) _) (nbel_alloc _ _)
  have HY : Hid (W.rowIs (w.heap.size + 1) 28 7 (rowN stZ)) := by show W.rowIs _ _ _ _; rw [hW]; exact rowN_alloc' (by simp) stZ _
  obtain ⟨W1, hW1⟩ : ∃ W1, W1 = W.alloc (.cells #[] 37) := ⟨_, rfl⟩
  have hsz1 : W1.heap.size = w.heap.size + 3 := by rw [hW1]; simp; omega
  have O1 : Hid (W1.ownsRow (w.heap.size + 2) 37 2 (.slice (some ⟨w.heap.size + 2, 0, none⟩) 0 0) ([] : List Ln.Nt).length (nvs [])) := by
    have := World.ownsRow_made (e := 37) (size := 2) W #[] 0 (Nat.le_refl _) (Nat.zero_le _) rfl
    rw [hsz, ← hW1] at this
    exact this
  have hb1 : Below W.heap.size W W1 := by rw [hW1]; exact nbel_alloc _ _
  have HM := Lib.hid ((h.below HB.out).below hb1)
  have HX1 := Lib.hid (nrow_below HX.out hb1)
  have HY1 := Lib.hid (nrow_below HY.out hb1)
  have HB1 : Hid (Below w.heap.size w W1) := HB.out.trans (hb1.mono HB.out.size)
  have HWW : Hid (W1 = ((w.alloc (stO s a k)).alloc stZO).alloc (.cells #[] 37)) := by show _ = _; rw [hW1, hW]
  have HSZ1 := Lib.hid hsz1
  obtain ⟨⟨x0, x1, x2, x3, x4, x5, x6⟩, f0, f1, f2, f3, f4, f5, f6⟩ := rowN7 HX1.out
  clear hW hW1 hsz hsz1 h hb1 HB HX HY
  rw [HWW.out] at O1 HM x5
  go_enter Tryz.func19, Tryz.ntmps19
  go_wp2_with (at_builtin; refine wpList_append_ns (l := []) (m := s.wait) rfl _ _ 26 rfl 37 i0 (.agg #[.int .i64 0, .int .i64 0]) 16 Tryz.underlying26 hi hz0 hz1 hz2 rfl (w.heap.size + 2) _ rfl O1.out a k ?c5 HM.out (by unfold maxLen; simp; omega) (by simp; omega) (by simp) ?_)
  case c5 => rfl
  intro v5 w5 hown hgrow
  rw [← HWW.out] at hgrow
  have hgb : ∀ q, q < w.heap.size + 2 → w5.heap[q]? = W1.heap[q]? := fun q hq => hgrow.block q (by rw [HSZ1.out]; omega) (by simp [Value.ownBlock]; omega)
  have HX5 : Hid (w5.rowIs w.heap.size 28 7 (rowN (stL s a k))) := HX1.out.of_block (hgb _ (by omega))
  have HY5 : Hid (w5.rowIs (w.heap.size + 1) 28 7 (rowN stZ)) := HY1.out.of_block (hgb _ (by omega))
  have HB5 : Hid (Below w.heap.size w w5) := HB1.out.trans ⟨hgrow.os, hgrow.tape, hgrow.output, hgrow.size, fun q hq => hgb q (by omega)⟩
  have hown2 : w5.ownsRow (w.heap.size + 2) 37 2 v5 s.wait.length (nvs s.wait) := by simpa using hown
  obtain ⟨a5, k5, rfl, _, _⟩ := own_ns hown2
  have HO5 := Lib.hid hown2
  clear hown hown2 hgrow hgb O1 HM HX1 HY1 HB1 HWW HSZ1 x0 x1 x2 x3 x4 x5 x6 f0 f1 f2 f3 f4 f5 f6
  obtain ⟨⟨x0, x1, x2, x3, x4, x5, x6⟩, f0, f1, f2, f3, f4, f5, f6⟩ := rowN7 HX5.out
  obtain ⟨⟨y0, y1, y2, y3, y4, y5, y6⟩, g0, g1, g2, g3, g4, g5, g6⟩ := rowN7 HY5.out
  have hl0 := HX5.out.lt
  have hl1 := HY5.out.lt
  obtain ⟨V, hV⟩ : ∃ V, V = w5.setCell ⟨w.heap.size, 5, none⟩ (.slice a5 s.wait.length k5) := ⟨_, rfl⟩
  have bV : ∀ q, q ≠ w.heap.size → V.heap[q]? = w5.heap[q]? := fun q hq => by rw [hV]; exact bihs _ _ _ hq _ _
  have HBV : Hid (Below w.heap.size w V) := by show Below _ _ _; rw [hV]; exact HB5.out.setCell (p := ⟨w.heap.size, _, none⟩) (Nat.le_refl _) _
  have HYV : Hid (V.rowIs (w.heap.size + 1) 28 7 (rowN stZ)) := HY5.out.of_block (bV _ (by omega))
  have HOV : Hid (V.ownsRow (w.heap.size + 2) 37 2 (.slice a5 s.wait.length k5) s.wait.length (nvs s.wait)) := ownsRow_keep HO5.out (Nat.le_refl _) (fun q hq _ => bV q (by omega))
  have HV := Lib.hid hV
  clear hV bV
  have zr := Lib.hid (lput7 HYV.out rfl (.int .i64 s.unit) (.int .i64 s.band) (.bool s.seen) (.int .i64 s.last) (.int .i64 s.next) (.slice a5 s.wait.length k5) (.int .i64 s.drops))
  have zb := Lib.hid (lbel7 HBV.out (g := w.heap.size + 1) (by omega) (.int .i64 s.unit) (.int .i64 s.band) (.bool s.seen) (.int .i64 s.last) (.int .i64 s.next) (.slice a5 s.wait.length k5) (.int .i64 s.drops))
  have zo : Hid (World.ownsRow (((((((V.setCell ⟨w.heap.size + 1, 0, none⟩ (.int .i64 s.unit)).setCell ⟨w.heap.size + 1, 1, none⟩ (.int .i64 s.band)).setCell ⟨w.heap.size + 1, 2, none⟩ (.bool s.seen)).setCell ⟨w.heap.size + 1, 3, none⟩ (.int .i64 s.last)).setCell ⟨w.heap.size + 1, 4, none⟩ (.int .i64 s.next)).setCell ⟨w.heap.size + 1, 5, none⟩ (.slice a5 s.wait.length k5)).setCell ⟨w.heap.size + 1, 6, none⟩ (.int .i64 s.drops)) w.heap.size 37 2 (.slice a5 s.wait.length k5) s.wait.length (nvs s.wait)) := by
    have := ownsRow_keep (W' := (((((((V.setCell ⟨w.heap.size + 1, 0, none⟩ (.int .i64 s.unit)).setCell ⟨w.heap.size + 1, 1, none⟩ (.int .i64 s.band)).setCell ⟨w.heap.size + 1, 2, none⟩ (.bool s.seen)).setCell ⟨w.heap.size + 1, 3, none⟩ (.int .i64 s.last)).setCell ⟨w.heap.size + 1, 4, none⟩ (.int .i64 s.next)).setCell ⟨w.heap.size + 1, 5, none⟩ (.slice a5 s.wait.length k5)).setCell ⟨w.heap.size + 1, 6, none⟩ (.int .i64 s.drops))) HOV.out (Nat.le_refl _) (fun q hq _ => lblk7 (by omega) _ _ _ _ _ _ _)
    refine ⟨this.1, ?_⟩
    rcases this.2 with h2 | ⟨g, cap, cur, e1, e2, e3⟩
    · exact Or.inl h2
    · exact Or.inr ⟨g, cap, cur, e1, by omega, e3⟩
  rw [HV.out] at zr zb zo
  clear HV HBV HYV HOV HO5 HX5 HY5 HB5
  go_wp2_with fail
  refine bodyPost_ret (v := stV s a5 k5) ?_ rfl ⟨⟨a5, k5, rfl, zo.out⟩, zb.out⟩
  obtain ⟨⟨u0, u1, u2, u3, u4, u5, u6⟩, _⟩ := rowN7 zr.out
  simp only [results, Tryz.results19]
  simp [go_sem, u0, u1, u2, u3, u4, u5, u6]
theorem NqOwn.off2 {T T' : TypeId} {B N X m : Nat} {a : Option Addr} {f : Nat → Int} {G : Nat → Value} {W W' : World} (h : NqOwn T B N a f W) (hx : W.rowIs X T' m G) (hT : T ≠ T') (hb : ∀ k, k ≠ X → W'.heap[k]? = W.heap[k]?) : NqOwn T B N a f W' := by
  rcases h with h | ⟨g, o, rfl, h1, h2⟩
  · exact Or.inl h
  · refine Or.inr ⟨g, o, rfl, h1, h2.block (hb g (fun e => ?_))⟩
    subst e
    obtain ⟨_, _, _, q2, _⟩ := h2
    obtain ⟨_, q3, _⟩ := q2
    obtain ⟨_, q1, _⟩ := hx
    rw [q1] at q3
    simp at q3
    exact hT q3.2.symm
theorem own_ne {T T' : TypeId} {B n X m : Nat} {v : Value} {xs : List Value} {G : Nat → Value} {W : World} (h : W.ownsRow B T 2 v n xs) (hx : W.rowIs X T' m G) (hT : T ≠ T') : v.ownBlock ≠ some X := by
  intro e
  rcases h.2 with ⟨rfl, _⟩ | ⟨g, cap, cur, rfl, e2, e3, e4⟩
  · cases e
  · cases e
    obtain ⟨_, q1, _⟩ := hx
    have e3' : W.heap[g]? = _ := e3
    rw [q1] at e3'
    simp at e3'
    exact hT e3'.2.symm
set_option maxRecDepth 100000 in
set_option maxHeartbeats 16000000 in
theorem specNote_any (s : Ln.S) (a : Option Addr) (k : Nat) (v : Int) (w : World) (h : IsIn a (s.wait.length * 2) (Ln.fl s.wait) w) (hn : s.wait.length ≤ 1048576) :
    Calls Tryz.prog 12 #[stV s a k, .int .i64 v] w fun e w' => StEnd (s.note v) w.heap.size e w' ∧ Below w.heap.size w w' := by
  obtain ⟨i0, hi, hz0, hz1, hz2⟩ := info_parts linfo_note
  obtain ⟨W, hW⟩ : ∃ W, W = (w.alloc (stO s a k)).alloc stZO := ⟨_, rfl⟩
  have hsz : W.heap.size = w.heap.size + 2 := by rw [hW]; simp
  have HB : Hid (Below w.heap.size w W) := by show Below _ _ _; rw [hW]; exact ((Below.refl _ _).alloc (Nat.le_refl _) _).alloc (by simp) _
  have HX : Hid (W.rowIs w.heap.size 28 7 (rowN (stL s a k))) := by show W.rowIs _ _ _ _; rw [hW]; exact nrow_below (rowN_alloc w (stL s a k) _) (nbel_alloc _ _)
  have HY : Hid (W.rowIs (w.heap.size + 1) 28 7 (rowN stZ)) := by show W.rowIs _ _ _ _; rw [hW]; exact rowN_alloc' (by simp) stZ _
  have H := Lib.hid (h.below HB.out)
  have HN := Lib.hid hn
  have HW := Lib.hid hW
  have HSZ := Lib.hid hsz
  clear hW h hsz
  go_enter Tryz.func12, Tryz.ntmps12
  go_wp2_with fail
  rw [← HW.out]
  clear HW
  refine (specCopy_any s a k _ H.out HN.out).mono ?_
  rintro e w1 ⟨⟨a1, k1, rfl, hown⟩, hb⟩
  rw [HSZ.out] at hown
  obtain ⟨X, hX⟩ : ∃ X, X = w1.heap.size := ⟨_, rfl⟩
  obtain ⟨W2, hW2⟩ : ∃ W2, W2 = w1.alloc (stO s a1 k1) := ⟨_, rfl⟩
  have hXs : w.heap.size + 2 ≤ X := by rw [hX]; have := hb.size; rw [HSZ.out] at this; exact this
  have hb2 : Below w1.heap.size w1 W2 := by rw [hW2]; exact nbel_alloc _ _
  have hb3 := hb.trans (hb2.mono hb.size)
  have HX2 := Lib.hid (nrow_below HX.out hb3)
  have HY2 := Lib.hid (nrow_below HY.out hb3)
  have HB2 : Hid (Below w.heap.size w W2) := HB.out.trans (hb3.mono HB.out.size)
  have HA2 := Lib.hid (H.out.below hb3)
  have HO2 := Lib.hid (ownsRow_bel hown hb2)
  have HZ2 : Hid (W2.rowIs X 28 7 (rowN (stL s a1 k1))) := by show World.rowIs _ _ _ _ _; rw [hW2, hX]; exact rowN_alloc w1 (stL s a1 k1) _
  have HW2 := Lib.hid hW2
  have HXE := Lib.hid hX
  clear hb hb2 hb3 hown hW2 hX H HB HX HY HSZ
  have KR := Lib.hid (fun m os => grown_of_gr (specSRight_any s a k (Go.Sort.grow (W2.drewN m) os) (HA2.out.below (gr_of m os).bel) (by have := HN.out; omega)))
  have KV := Lib.hid (fun m os => grown_same (sval19_any v (Go.Sort.grow (W2.drewN m) os)))
  obtain ⟨⟨r0, r1, r2, r3, r4, r5, r6⟩, _⟩ := rowN7 HX2.out
  have hl0 := HX2.out.lt
  have x0 := cell_grown (w := W2) hl0 r0
  have x1 := cell_grown (w := W2) hl0 r1
  have x2 := cell_grown (w := W2) hl0 r2
  have x3 := cell_grown (w := W2) hl0 r3
  have x4 := cell_grown (w := W2) hl0 r4
  have x5 := cell_grown (w := W2) hl0 r5
  have x6 := cell_grown (w := W2) hl0 r6
  clear r0 r1 r2 r3 r4 r5 r6 hl0
  go_wp2_with fail
  rw [← HW2.out, ← HXE.out]
  clear HW2 HXE
  have hmix : Tryz.prog.follows Departure.mixedOrders = true := by kernel_rfl
  by_cases c1 : s.Right
  case neg =>
    have HE : Hid (s.note v = s) := Ln.S.note_no (fun h => c1 h.1)
    rw [lB_ff c1] at KR
    clear c1
    refine wp_region_quiet_grown hmix (by kernel_rfl) ?_
    iterate 27 go_big_quiet_step (first | (go_at_call 20; exact KR.out _ _))
    refine wpQuiet_nil ?_
    intro _ hw'
    obtain ⟨⟨nq, osq⟩, hw''⟩ := hw'
    subst hw''
    obtain ⟨W3, hW3⟩ : ∃ W3, W3 = Go.Sort.grow (W2.drewN nq) osq := ⟨_, rfl⟩
    rw [← hW3]
    have hb : Below W2.heap.size W2 W3 := by rw [hW3]; exact (gr_of nq osq).bel
    have HX3 := Lib.hid (nrow_below HX2.out hb)
    have HY3 := Lib.hid (nrow_below HY2.out hb)
    have HZ3 := Lib.hid (nrow_below HZ2.out hb)
    have HB3 : Hid (Below w.heap.size w W3) := HB2.out.trans (hb.mono HB2.out.size)
    have HO3 := Lib.hid (ownsRow_bel HO2.out hb)
    clear hW3 hb x0 x1 x2 x3 x4 x5 x6 KR KV HX2 HY2 HZ2 HB2 HA2 HO2
    obtain ⟨⟨x0, x1, x2, x3, x4, x5, x6⟩, f0, f1, f2, f3, f4, f5, f6⟩ := rowN7 HX3.out
    obtain ⟨⟨y0, y1, y2, y3, y4, y5, y6⟩, g0, g1, g2, g3, g4, g5, g6⟩ := rowN7 HY3.out
    obtain ⟨⟨z0, z1, z2, z3, z4, z5, z6⟩, p0, p1, p2, p3, p4, p5, p6⟩ := rowN7 HZ3.out
    have hl0 := HX3.out.lt
    have hl1 := HY3.out.lt
    have hl2 := HZ3.out.lt
    have hX0 : ¬ X = w.heap.size := by omega
    have hX1 : ¬ X = w.heap.size + 1 := by omega
    have hX0' : ¬ w.heap.size = X := by omega
    have hX1' : ¬ w.heap.size + 1 = X := by omega
    obtain ⟨a1', c1', e1, hq, _⟩ := own_ns HO3.out
    cases e1
    have HQ3 := Lib.hid hq
    clear hq
    have zr := Lib.hid (lput7 HY3.out rfl (.int .i64 s.unit) (.int .i64 s.band) (.bool s.seen) (.int .i64 s.last) (.int .i64 s.next) (.slice a1 s.wait.length k1) (.int .i64 s.drops))
    have zb := Lib.hid (lbel7 HB3.out (g := w.heap.size + 1) (by omega) (.int .i64 s.unit) (.int .i64 s.band) (.bool s.seen) (.int .i64 s.last) (.int .i64 s.next) (.slice a1 s.wait.length k1) (.int .i64 s.drops))
    have zq : Hid (NqOwn 37 w.heap.size s.wait.length a1 (Ln.fl s.wait) ((((((((W3.setCell ⟨w.heap.size + 1, 0, none⟩ (.int .i64 s.unit)).setCell ⟨w.heap.size + 1, 1, none⟩ (.int .i64 s.band)).setCell ⟨w.heap.size + 1, 2, none⟩ (.bool s.seen)).setCell ⟨w.heap.size + 1, 3, none⟩ (.int .i64 s.last)).setCell ⟨w.heap.size + 1, 4, none⟩ (.int .i64 s.next)).setCell ⟨w.heap.size + 1, 5, none⟩ (.slice a1 s.wait.length k1)).setCell ⟨w.heap.size + 1, 6, none⟩ (.int .i64 s.drops)))) := (HQ3.out.same (fun k hk _ => lblk7 (by omega) _ _ _ _ _ _ _)).low (by omega)
    go_wp2_with fail
    refine bodyPost_ret (v := stV s a1 k1) ?_ rfl ⟨by rw [HE.out]; exact ⟨a1, k1, rfl, zq.out⟩, zb.out⟩
    obtain ⟨⟨u0, u1, u2, u3, u4, u5, u6⟩, _⟩ := rowN7 zr.out
    simp only [results, Tryz.results12]
    simp [go_sem, u0, u1, u2, u3, u4, u5, u6]
  rw [lB_tt c1] at KR
  have HC1 := Lib.hid c1
  have hd := c1.1
  clear c1
  obtain ⟨-, ⟨b0, b1⟩, ⟨l0, l1⟩, -, -, -⟩ := hd
  by_cases c2 : -1000000 ≤ v ∧ v ≤ 1000000
  case neg =>
    have HE : Hid (s.note v = s) := Ln.S.note_no (fun h => c2 h.2.1)
    rw [decide_eq_false c2] at KV
    clear c2
    refine wp_region_quiet_grown hmix (by kernel_rfl) ?_
    iterate 27 go_big_quiet_step (first | (go_at_call 20; exact KR.out _ _) | (go_at_call 11; exact KV.out _ _))
    refine wpQuiet_nil ?_
    intro _ hw'
    obtain ⟨⟨nq, osq⟩, hw''⟩ := hw'
    subst hw''
    obtain ⟨W3, hW3⟩ : ∃ W3, W3 = Go.Sort.grow (W2.drewN nq) osq := ⟨_, rfl⟩
    rw [← hW3]
    have hb : Below W2.heap.size W2 W3 := by rw [hW3]; exact (gr_of nq osq).bel
    have HX3 := Lib.hid (nrow_below HX2.out hb)
    have HY3 := Lib.hid (nrow_below HY2.out hb)
    have HZ3 := Lib.hid (nrow_below HZ2.out hb)
    have HB3 : Hid (Below w.heap.size w W3) := HB2.out.trans (hb.mono HB2.out.size)
    have HO3 := Lib.hid (ownsRow_bel HO2.out hb)
    clear hW3 hb x0 x1 x2 x3 x4 x5 x6 KR KV HX2 HY2 HZ2 HB2 HA2 HO2
    obtain ⟨⟨x0, x1, x2, x3, x4, x5, x6⟩, f0, f1, f2, f3, f4, f5, f6⟩ := rowN7 HX3.out
    obtain ⟨⟨y0, y1, y2, y3, y4, y5, y6⟩, g0, g1, g2, g3, g4, g5, g6⟩ := rowN7 HY3.out
    obtain ⟨⟨z0, z1, z2, z3, z4, z5, z6⟩, p0, p1, p2, p3, p4, p5, p6⟩ := rowN7 HZ3.out
    have hl0 := HX3.out.lt
    have hl1 := HY3.out.lt
    have hl2 := HZ3.out.lt
    have hX0 : ¬ X = w.heap.size := by omega
    have hX1 : ¬ X = w.heap.size + 1 := by omega
    have hX0' : ¬ w.heap.size = X := by omega
    have hX1' : ¬ w.heap.size + 1 = X := by omega
    obtain ⟨a1', c1', e1, hq, _⟩ := own_ns HO3.out
    cases e1
    have HQ3 := Lib.hid hq
    clear hq
    have zr := Lib.hid (lput7 HY3.out rfl (.int .i64 s.unit) (.int .i64 s.band) (.bool s.seen) (.int .i64 s.last) (.int .i64 s.next) (.slice a1 s.wait.length k1) (.int .i64 s.drops))
    have zb := Lib.hid (lbel7 HB3.out (g := w.heap.size + 1) (by omega) (.int .i64 s.unit) (.int .i64 s.band) (.bool s.seen) (.int .i64 s.last) (.int .i64 s.next) (.slice a1 s.wait.length k1) (.int .i64 s.drops))
    have zq : Hid (NqOwn 37 w.heap.size s.wait.length a1 (Ln.fl s.wait) ((((((((W3.setCell ⟨w.heap.size + 1, 0, none⟩ (.int .i64 s.unit)).setCell ⟨w.heap.size + 1, 1, none⟩ (.int .i64 s.band)).setCell ⟨w.heap.size + 1, 2, none⟩ (.bool s.seen)).setCell ⟨w.heap.size + 1, 3, none⟩ (.int .i64 s.last)).setCell ⟨w.heap.size + 1, 4, none⟩ (.int .i64 s.next)).setCell ⟨w.heap.size + 1, 5, none⟩ (.slice a1 s.wait.length k1)).setCell ⟨w.heap.size + 1, 6, none⟩ (.int .i64 s.drops)))) := (HQ3.out.same (fun k hk _ => lblk7 (by omega) _ _ _ _ _ _ _)).low (by omega)
    go_wp2_with fail
    refine bodyPost_ret (v := stV s a1 k1) ?_ rfl ⟨by rw [HE.out]; exact ⟨a1, k1, rfl, zq.out⟩, zb.out⟩
    obtain ⟨⟨u0, u1, u2, u3, u4, u5, u6⟩, _⟩ := rowN7 zr.out
    simp only [results, Tryz.results12]
    simp [go_sem, u0, u1, u2, u3, u4, u5, u6]
  rw [decide_eq_true c2] at KV
  by_cases c3 : s.next = 60000
  · have HE : Hid (s.note v = s) := Ln.S.note_no (fun h => h.2.2.1 c3)
    have c3' : (s.next == 60000) = true := by simpa using c3
    clear c3
    refine wp_region_quiet_grown hmix (by kernel_rfl) ?_
    iterate 27 go_big_quiet_step (first | (go_at_call 20; exact KR.out _ _) | (go_at_call 11; exact KV.out _ _))
    refine wpQuiet_nil ?_
    intro _ hw'
    obtain ⟨⟨nq, osq⟩, hw''⟩ := hw'
    subst hw''
    obtain ⟨W3, hW3⟩ : ∃ W3, W3 = Go.Sort.grow (W2.drewN nq) osq := ⟨_, rfl⟩
    rw [← hW3]
    have hb : Below W2.heap.size W2 W3 := by rw [hW3]; exact (gr_of nq osq).bel
    have HX3 := Lib.hid (nrow_below HX2.out hb)
    have HY3 := Lib.hid (nrow_below HY2.out hb)
    have HZ3 := Lib.hid (nrow_below HZ2.out hb)
    have HB3 : Hid (Below w.heap.size w W3) := HB2.out.trans (hb.mono HB2.out.size)
    have HO3 := Lib.hid (ownsRow_bel HO2.out hb)
    clear hW3 hb x0 x1 x2 x3 x4 x5 x6 KR KV HX2 HY2 HZ2 HB2 HA2 HO2
    obtain ⟨⟨x0, x1, x2, x3, x4, x5, x6⟩, f0, f1, f2, f3, f4, f5, f6⟩ := rowN7 HX3.out
    obtain ⟨⟨y0, y1, y2, y3, y4, y5, y6⟩, g0, g1, g2, g3, g4, g5, g6⟩ := rowN7 HY3.out
    obtain ⟨⟨z0, z1, z2, z3, z4, z5, z6⟩, p0, p1, p2, p3, p4, p5, p6⟩ := rowN7 HZ3.out
    have hl0 := HX3.out.lt
    have hl1 := HY3.out.lt
    have hl2 := HZ3.out.lt
    have hX0 : ¬ X = w.heap.size := by omega
    have hX1 : ¬ X = w.heap.size + 1 := by omega
    have hX0' : ¬ w.heap.size = X := by omega
    have hX1' : ¬ w.heap.size + 1 = X := by omega
    obtain ⟨a1', c1', e1, hq, _⟩ := own_ns HO3.out
    cases e1
    have HQ3 := Lib.hid hq
    clear hq
    have zr := Lib.hid (lput7 HY3.out rfl (.int .i64 s.unit) (.int .i64 s.band) (.bool s.seen) (.int .i64 s.last) (.int .i64 s.next) (.slice a1 s.wait.length k1) (.int .i64 s.drops))
    have zb := Lib.hid (lbel7 HB3.out (g := w.heap.size + 1) (by omega) (.int .i64 s.unit) (.int .i64 s.band) (.bool s.seen) (.int .i64 s.last) (.int .i64 s.next) (.slice a1 s.wait.length k1) (.int .i64 s.drops))
    have zq : Hid (NqOwn 37 w.heap.size s.wait.length a1 (Ln.fl s.wait) ((((((((W3.setCell ⟨w.heap.size + 1, 0, none⟩ (.int .i64 s.unit)).setCell ⟨w.heap.size + 1, 1, none⟩ (.int .i64 s.band)).setCell ⟨w.heap.size + 1, 2, none⟩ (.bool s.seen)).setCell ⟨w.heap.size + 1, 3, none⟩ (.int .i64 s.last)).setCell ⟨w.heap.size + 1, 4, none⟩ (.int .i64 s.next)).setCell ⟨w.heap.size + 1, 5, none⟩ (.slice a1 s.wait.length k1)).setCell ⟨w.heap.size + 1, 6, none⟩ (.int .i64 s.drops)))) := (HQ3.out.same (fun k hk _ => lblk7 (by omega) _ _ _ _ _ _ _)).low (by omega)
    go_wp2_with fail
    refine bodyPost_ret (v := stV s a1 k1) ?_ rfl ⟨by rw [HE.out]; exact ⟨a1, k1, rfl, zq.out⟩, zb.out⟩
    obtain ⟨⟨u0, u1, u2, u3, u4, u5, u6⟩, _⟩ := rowN7 zr.out
    simp only [results, Tryz.results12]
    simp [go_sem, u0, u1, u2, u3, u4, u5, u6]
  have c3' : (s.next == 60000) = false := by simpa using c3
  by_cases c4 : s.seen = true
  case neg =>
    have c4' : s.seen = false := by cases h : s.seen <;> simp_all
    have HT : Hid (s.Takes v) := ⟨HC1.out, c2, c3, fun h => c4 h.1⟩
    rw [c4'] at x2
    simp only [stV, c4'] at KR
    clear c3 c4
    refine wp_region_quiet_grown hmix (by kernel_rfl) ?_
    iterate 27 go_big_quiet_step (first | (go_at_call 20; exact KR.out _ _) | (go_at_call 11; exact KV.out _ _))
    refine wpQuiet_nil ?_
    intro _ hw'
    obtain ⟨⟨nq, osq⟩, hw''⟩ := hw'
    subst hw''
    rw [← c4'] at x2
    clear c4'
    obtain ⟨W3, hW3⟩ : ∃ W3, W3 = Go.Sort.grow (W2.drewN nq) osq := ⟨_, rfl⟩
    rw [← hW3]
    have hb : Below W2.heap.size W2 W3 := by rw [hW3]; exact (gr_of nq osq).bel
    have HX3 := Lib.hid (nrow_below HX2.out hb)
    have HY3 := Lib.hid (nrow_below HY2.out hb)
    have HZ3 := Lib.hid (nrow_below HZ2.out hb)
    have HB3 : Hid (Below w.heap.size w W3) := HB2.out.trans (hb.mono HB2.out.size)
    have HO3 := Lib.hid (ownsRow_bel HO2.out hb)
    clear hW3 hb x0 x1 x2 x3 x4 x5 x6 KR KV HX2 HY2 HZ2 HB2 HA2 HO2
    obtain ⟨⟨x0, x1, x2, x3, x4, x5, x6⟩, f0, f1, f2, f3, f4, f5, f6⟩ := rowN7 HX3.out
    obtain ⟨⟨y0, y1, y2, y3, y4, y5, y6⟩, g0, g1, g2, g3, g4, g5, g6⟩ := rowN7 HY3.out
    obtain ⟨⟨z0, z1, z2, z3, z4, z5, z6⟩, p0, p1, p2, p3, p4, p5, p6⟩ := rowN7 HZ3.out
    have hl0 := HX3.out.lt
    have hl1 := HY3.out.lt
    have hl2 := HZ3.out.lt
    have hX0 : ¬ X = w.heap.size := by omega
    have hX1 : ¬ X = w.heap.size + 1 := by omega
    have hX0' : ¬ w.heap.size = X := by omega
    have hX1' : ¬ w.heap.size + 1 = X := by omega
    obtain ⟨-, -, -, -, ⟨nx0, nx1⟩, ⟨dr0, dr1⟩⟩ := HT.out.1.1
    have hw40 := HT.out.1.2.1
    have HE : Hid (s.note v = s.put v) := Ln.S.note_yes HT.out
    have hnx : IntKind.i64.wrap (s.next + 1) = s.next + 1 := lnwrap (by omega) (by omega)
    obtain ⟨V3, hV3⟩ : ∃ V3, V3 = (W3.setCell ⟨X, 2, none⟩ (.bool true)).setCell ⟨X, 3, none⟩ (.int .i64 v) := ⟨_, rfl⟩
    have b3 : ∀ q, q ≠ X → V3.heap[q]? = W3.heap[q]? := fun q hq => by rw [hV3]; exact (bihs _ _ _ hq _ _).trans (bihs _ _ _ hq _ _)
    have s3 : V3.heap.size = W3.heap.size := by rw [hV3]; simp
    obtain ⟨M3, hM3⟩ : ∃ M3, M3 = V3.alloc (.cells #[.int .i64 s.next, .int .i64 v] 37) := ⟨_, rfl⟩
    have hbm : Below V3.heap.size V3 M3 := by rw [hM3]; exact nbel_alloc _ _
    have HXV : Hid (V3.rowIs w.heap.size 28 7 (rowN (stL s a k))) := HX3.out.of_block (b3 _ (by omega))
    have HYV : Hid (V3.rowIs (w.heap.size + 1) 28 7 (rowN stZ)) := HY3.out.of_block (b3 _ (by omega))
    have HZV : Hid (V3.rowIs X 28 7 (rowN [.int .i64 s.unit, .int .i64 s.band, .bool true, .int .i64 v, .int .i64 s.next, .slice a1 s.wait.length k1, .int .i64 s.drops])) := by show World.rowIs _ _ _ _ _; rw [hV3]; exact rowN_put (rowN_put HZ3.out 2 _ (by simp)) 3 _ (by simp)
    have HBV : Hid (Below w.heap.size w V3) := by show Below _ _ _; rw [hV3]; exact (HB3.out.setCell (p := ⟨X, _, none⟩) (by show w.heap.size ≤ X; omega) _).setCell (p := ⟨X, _, none⟩) (by show w.heap.size ≤ X; omega) _
    have HOV : Hid (V3.ownsRow (w.heap.size + 2) 37 2 (.slice a1 s.wait.length k1) s.wait.length (nvs s.wait)) := by
      show World.ownsRow _ _ _ _ _ _ _
      have hne := own_ne HO3.out HZ3.out (by decide)
      refine ⟨HO3.out.1, ?_⟩
      rcases HO3.out.2 with h2 | ⟨g, cap, cur, e1, e2, e3, e4⟩
      · exact Or.inl h2
      · exact Or.inr ⟨g, cap, cur, e1, e2, by rw [b3 g (fun e => hne (by rw [e1, e]; rfl))]; exact e3, e4⟩
    have HXA := Lib.hid (nrow_below HXV.out hbm)
    have HYA := Lib.hid (nrow_below HYV.out hbm)
    have HZA := Lib.hid (nrow_below HZV.out hbm)
    have HBA : Hid (Below w.heap.size w M3) := HBV.out.trans (hbm.mono HBV.out.size)
    have O4 := Lib.hid (ownsRow_bel HOV.out hbm)
    have HM : Hid (IsIn (some ⟨W3.heap.size, 0, none⟩) (([(s.next, v)] : List Ln.Nt).length * 2) (Ln.fl [(s.next, v)]) M3) := by show IsIn _ _ _ _; rw [hM3, ← s3]; exact one_in V3 37 s.next v
    have hM3s : w.heap.size + 2 ≤ M3.heap.size := by have := hbm.size; omega
    have HMM : Hid (M3 = ((W3.setCell ⟨X, 2, none⟩ (.bool true)).setCell ⟨X, 3, none⟩ (.int .i64 v)).alloc (.cells #[.int .i64 s.next, .int .i64 v] 37)) := by show _ = _; rw [hM3, hV3]
    have HOB : Hid (∀ q, (Value.slice a1 s.wait.length k1).ownBlock = some q → w.heap.size + 2 ≤ q ∧ q ≠ X) := fun q hq => ⟨(O4.out.lt q hq).1, fun e => own_ne O4.out HZA.out (by decide) (by rw [hq, e])⟩
    clear hV3 hM3 b3 s3 hbm HXV HYV HZV HBV HOV HO3 HT
    have O4b := Lib.hid O4.out
    have HMb := Lib.hid HM.out
    rw [HMM.out] at O4b HMb
    go_wp2_with (at_builtin; refine wpList_append_ns (l := s.wait) (m := [(s.next, v)]) rfl _ _ 26 rfl 37 i0 (.agg #[.int .i64 0, .int .i64 0]) 16 Tryz.underlying26 hi hz0 hz1 hz2 rfl (w.heap.size + 2) _ rfl O4b.out (some ⟨W3.heap.size, 0, none⟩) 1 rfl HMb.out (by unfold maxLen; simp; omega) (by simp; omega) (by rw [← HMM.out]; exact hM3s) ?_)
    intro v5 w5 hown hgrow
    rw [← HMM.out] at hgrow
    have HB5 : Hid (Below w.heap.size w w5) := HBA.out.grown hgrow (by omega) (fun q hq => by have := (HOB.out q hq).1; omega)
    have HX5 : Hid (w5.rowIs w.heap.size 28 7 (rowN (stL s a k))) := HXA.out.of_block (hgrow.block _ HXA.out.lt (fun e => by have := (HOB.out _ e.symm).1; omega))
    have HY5 : Hid (w5.rowIs (w.heap.size + 1) 28 7 (rowN stZ)) := HYA.out.of_block (hgrow.block _ HYA.out.lt (fun e => by have := (HOB.out _ e.symm).1; omega))
    have HZ5 : Hid (w5.rowIs X 28 7 (rowN [.int .i64 s.unit, .int .i64 s.band, .bool true, .int .i64 v, .int .i64 s.next, .slice a1 s.wait.length k1, .int .i64 s.drops])) := HZA.out.of_block (hgrow.block _ HZA.out.lt (fun e => (HOB.out _ e.symm).2 rfl))
    obtain ⟨L, hL⟩ : ∃ L, L = s.wait ++ [(s.next, v)] := ⟨_, rfl⟩
    have hLl : L.length = s.wait.length + 1 := by rw [hL]; simp
    have hown2 : w5.ownsRow (w.heap.size + 2) 37 2 v5 L.length (nvs L) := by rw [hL]; simpa using hown
    clear hown
    obtain ⟨a5, k5, rfl, hq5, hf5⟩ := own_ns hown2
    have HQ5 := Lib.hid hq5
    have HF5 := Lib.hid hf5
    have HL := Lib.hid hL
    clear hown2 hgrow hq5 hf5 O4 O4b HM HMb HMM HBA HXA HYA HZA HX3 HY3 HZ3 HB3 hL HOB hM3s
    clear x0 x1 x2 x3 x4 x5 x6 f0 f1 f2 f3 f4 f5 f6 y0 y1 y2 y3 y4 y5 y6 g0 g1 g2 g3 g4 g5 g6 z0 z1 z2 z3 z4 z5 z6 p0 p1 p2 p3 p4 p5 p6 hl0 hl1 hl2
    obtain ⟨⟨x0, x1, x2, x3, x4, x5, x6⟩, f0, f1, f2, f3, f4, f5, f6⟩ := rowN7 HX5.out
    obtain ⟨⟨y0, y1, y2, y3, y4, y5, y6⟩, g0, g1, g2, g3, g4, g5, g6⟩ := rowN7 HY5.out
    obtain ⟨⟨z0, z1, z2, z3, z4, z5, z6⟩, p0, p1, p2, p3, p4, p5, p6⟩ := rowN7 HZ5.out
    have hl0 := HX5.out.lt
    have hl1 := HY5.out.lt
    have hl2 := HZ5.out.lt
    by_cases c40 : s.wait.length < 40
    · have HLen : Hid (L.length = s.wait.length + 1) := hLl
      have hgt : ¬ (40 : Int) < (L.length : Int) := by omega
      clear hLl
      have HP : Hid (s.put v = ⟨s.unit, s.band, true, v, s.next + 1, L, s.drops⟩) := by show _ = _; unfold Ln.S.put; rw [if_pos c40, HL.out]
      obtain ⟨N, hN⟩ : ∃ N, N = L.length := ⟨_, rfl⟩
      rw [← hN] at hgt ⊢
      have HNL := Lib.hid hN
      clear hN
      obtain ⟨V, hV⟩ : ∃ V, V = ((w5.setCell ⟨X, 5, none⟩ (.slice a5 N k5)).setCell ⟨X, 4, none⟩ (.int .i64 (s.next + 1))) := ⟨_, rfl⟩
      have bV : ∀ q, q ≠ X → V.heap[q]? = w5.heap[q]? := fun q hq => by rw [hV]; exact (bihs _ _ _ hq _ _).trans ((bihs _ _ _ hq _ _).trans (rfl))
      have HBV : Hid (Below w.heap.size w V) := by show Below _ _ _; rw [hV]; exact ((HB5.out.setCell (p := ⟨X, _, none⟩) (by show w.heap.size ≤ X; omega) _).setCell (p := ⟨X, _, none⟩) (by show w.heap.size ≤ X; omega) _)
      have HYV : Hid (V.rowIs (w.heap.size + 1) 28 7 (rowN stZ)) := HY5.out.of_block (bV _ (by omega))
      have HQV : Hid (NqOwn 37 (w.heap.size + 2) L.length a5 (Ln.fl L) V) := HQ5.out.off2 HZ5.out (by decide) bV
      have HV := Lib.hid hV
      clear hV bV
      have zr := Lib.hid (lput7 HYV.out rfl (.int .i64 s.unit) (.int .i64 s.band) (.bool true) (.int .i64 v) (.int .i64 (s.next + 1)) (.slice a5 N k5) (.int .i64 s.drops))
      have zb := Lib.hid (lbel7 HBV.out (g := w.heap.size + 1) (by omega) (.int .i64 s.unit) (.int .i64 s.band) (.bool true) (.int .i64 v) (.int .i64 (s.next + 1)) (.slice a5 N k5) (.int .i64 s.drops))
      have zq : Hid (NqOwn 37 w.heap.size L.length a5 (Ln.fl L) ((((((((V.setCell ⟨w.heap.size + 1, 0, none⟩ (.int .i64 s.unit)).setCell ⟨w.heap.size + 1, 1, none⟩ (.int .i64 s.band)).setCell ⟨w.heap.size + 1, 2, none⟩ (.bool true)).setCell ⟨w.heap.size + 1, 3, none⟩ (.int .i64 v)).setCell ⟨w.heap.size + 1, 4, none⟩ (.int .i64 (s.next + 1))).setCell ⟨w.heap.size + 1, 5, none⟩ (.slice a5 N k5)).setCell ⟨w.heap.size + 1, 6, none⟩ (.int .i64 s.drops)))) := (HQV.out.same (fun k hk _ => lblk7 (by omega) _ _ _ _ _ _ _)).low (by omega)
      rw [HV.out] at zr zb zq
      clear HV HBV HYV HQV HQ5 HF5 HB5 HX5 HY5 HZ5
      go_wp2_with fail
      refine bodyPost_ret (v := stV ⟨s.unit, s.band, true, v, s.next + 1, L, s.drops⟩ a5 k5) ?_ rfl ⟨by rw [HE.out, HP.out]; exact ⟨_, _, rfl, zq.out⟩, zb.out⟩
      obtain ⟨⟨u0, u1, u2, u3, u4, u5, u6⟩, _⟩ := rowN7 zr.out
      simp only [results, Tryz.results12]
      simp only [stV, ← HNL.out]
      simp [go_sem, u0, u1, u2, u3, u4, u5, u6]
    · have hgt : (40 : Int) < (L.length : Int) := by omega
      have HP : Hid (s.put v = ⟨s.unit, s.band, true, v, s.next + 1, L.tail, s.drops + 1⟩) := by show _ = _; unfold Ln.S.put; rw [if_neg c40, HL.out]
      have hdr : IntKind.i64.wrap (s.drops + 1) = s.drops + 1 := lnwrap (by omega) (by omega)
      obtain ⟨gg, rfl, hg5, hlk, FF, hrow, hFF⟩ : ∃ g, a5 = some ⟨g, 0, none⟩ ∧ w.heap.size + 2 ≤ g ∧ L.length ≤ k5 ∧ ∃ F, w5.rowIs g 37 (k5 * 2) F ∧ ∀ j, j < L.length * 2 → F j = .int .i64 (Ln.fl L j) := by
        rcases HF5.out with ⟨_, h, _⟩ | h
        · omega
        · exact h
      obtain ⟨N, hN⟩ : ∃ N, L.length = N + 1 := ⟨L.length - 1, by omega⟩
      obtain ⟨C, hC⟩ : ∃ C, k5 = C + 1 := ⟨k5 - 1, by omega⟩
      subst hC
      have HTL : Hid (L.tail.length = N) := by show _ = _; simp; omega
      have HQ6 : Hid (NqOwn 37 (w.heap.size + 2) L.tail.length (some ⟨gg, 2, none⟩) (Ln.fl L.tail) w5) := Or.inr ⟨gg, 2, rfl, hg5, (C + 1) * 2, FF, by rw [HTL.out]; omega, hrow, fun j hj => by rw [Ln.fl_tail]; exact hFF (2 + j) (by rw [HTL.out] at hj; omega)⟩
      rw [hN] at hgt hlk ⊢
      have hk1 : (1 : Int) ≤ ((N + 1 : Nat) : Int) := by omega
      have hk2 : ((N + 1 : Nat) : Int) ≤ ((C + 1 : Nat) : Int) := by omega
      have HHN := Lib.hid hN
      clear hN hrow hFF hLl
      obtain ⟨V, hV⟩ : ∃ V, V = ((((w5.setCell ⟨X, 5, none⟩ (.slice (some ⟨gg, 0, none⟩) (N + 1) (C + 1))).setCell ⟨X, 4, none⟩ (.int .i64 (s.next + 1))).setCell ⟨X, 5, none⟩ (.slice (some ⟨gg, 2, none⟩) N C)).setCell ⟨X, 6, none⟩ (.int .i64 (s.drops + 1))) := ⟨_, rfl⟩
      have bV : ∀ q, q ≠ X → V.heap[q]? = w5.heap[q]? := fun q hq => by rw [hV]; exact (bihs _ _ _ hq _ _).trans ((bihs _ _ _ hq _ _).trans ((bihs _ _ _ hq _ _).trans ((bihs _ _ _ hq _ _).trans (rfl))))
      have HBV : Hid (Below w.heap.size w V) := by show Below _ _ _; rw [hV]; exact ((((HB5.out.setCell (p := ⟨X, _, none⟩) (by show w.heap.size ≤ X; omega) _).setCell (p := ⟨X, _, none⟩) (by show w.heap.size ≤ X; omega) _).setCell (p := ⟨X, _, none⟩) (by show w.heap.size ≤ X; omega) _).setCell (p := ⟨X, _, none⟩) (by show w.heap.size ≤ X; omega) _)
      have HYV : Hid (V.rowIs (w.heap.size + 1) 28 7 (rowN stZ)) := HY5.out.of_block (bV _ (by omega))
      have HQV : Hid (NqOwn 37 (w.heap.size + 2) L.tail.length (some ⟨gg, 2, none⟩) (Ln.fl L.tail) V) := HQ6.out.off2 HZ5.out (by decide) bV
      have HV := Lib.hid hV
      clear hV bV
      have zr := Lib.hid (lput7 HYV.out rfl (.int .i64 s.unit) (.int .i64 s.band) (.bool true) (.int .i64 v) (.int .i64 (s.next + 1)) (.slice (some ⟨gg, 2, none⟩) N C) (.int .i64 (s.drops + 1)))
      have zb := Lib.hid (lbel7 HBV.out (g := w.heap.size + 1) (by omega) (.int .i64 s.unit) (.int .i64 s.band) (.bool true) (.int .i64 v) (.int .i64 (s.next + 1)) (.slice (some ⟨gg, 2, none⟩) N C) (.int .i64 (s.drops + 1)))
      have zq : Hid (NqOwn 37 w.heap.size L.tail.length (some ⟨gg, 2, none⟩) (Ln.fl L.tail) ((((((((V.setCell ⟨w.heap.size + 1, 0, none⟩ (.int .i64 s.unit)).setCell ⟨w.heap.size + 1, 1, none⟩ (.int .i64 s.band)).setCell ⟨w.heap.size + 1, 2, none⟩ (.bool true)).setCell ⟨w.heap.size + 1, 3, none⟩ (.int .i64 v)).setCell ⟨w.heap.size + 1, 4, none⟩ (.int .i64 (s.next + 1))).setCell ⟨w.heap.size + 1, 5, none⟩ (.slice (some ⟨gg, 2, none⟩) N C)).setCell ⟨w.heap.size + 1, 6, none⟩ (.int .i64 (s.drops + 1))))) := (HQV.out.same (fun k hk _ => lblk7 (by omega) _ _ _ _ _ _ _)).low (by omega)
      rw [HV.out] at zr zb zq
      clear HV HBV HYV HQV HQ5 HF5 HB5 HX5 HY5 HZ5
      go_wp2_with fail
      refine bodyPost_ret (v := stV ⟨s.unit, s.band, true, v, s.next + 1, L.tail, s.drops + 1⟩ (some ⟨gg, 2, none⟩) C) ?_ rfl ⟨by rw [HE.out, HP.out]; exact ⟨_, _, rfl, zq.out⟩, zb.out⟩
      obtain ⟨⟨u0, u1, u2, u3, u4, u5, u6⟩, _⟩ := rowN7 zr.out
      simp only [results, Tryz.results12]
      simp only [stV, HTL.out]
      simp [go_sem, u0, u1, u2, u3, u4, u5, u6]
  obtain ⟨z, hz⟩ : ∃ z, z = (if v - s.last < 0 then -(v - s.last) else v - s.last) := ⟨_, rfl⟩
  have KA := Lib.hid (fun m os => grown_same (sabs19_any (v - s.last) (Go.Sort.grow (W2.drewN m) os) (by omega) (by omega)))
  rw [← hz] at KA
  have hzb : z ≤ s.band ↔ (-s.band ≤ v - s.last ∧ v - s.last ≤ s.band) := by
    rw [hz]; split <;> omega
  have hv1 : IntKind.i64.wrap (v - s.last) = v - s.last := lnwrap (by omega) (by omega)
  clear hz
  by_cases c5 : z ≤ s.band
  · have HE : Hid (s.note v = s) := Ln.S.note_no (fun h => h.2.2.2 ⟨c4, hzb.1 c5⟩)
    have d5 : decide (z ≤ s.band) = true := by simpa using c5
    rw [c4] at x2
    simp only [stV, c4] at KR
    clear c3 hzb
    refine wp_region_quiet_grown hmix (by kernel_rfl) ?_
    iterate 27 go_big_quiet_step (first | (go_at_call 20; exact KR.out _ _) | (go_at_call 11; exact KV.out _ _) | (go_at_call 21; exact KA.out _ _))
    refine wpQuiet_nil ?_
    intro _ hw'
    obtain ⟨⟨nq, osq⟩, hw''⟩ := hw'
    subst hw''
    rw [← c4] at x2
    clear c4
    obtain ⟨W3, hW3⟩ : ∃ W3, W3 = Go.Sort.grow (W2.drewN nq) osq := ⟨_, rfl⟩
    rw [← hW3]
    have hb : Below W2.heap.size W2 W3 := by rw [hW3]; exact (gr_of nq osq).bel
    have HX3 := Lib.hid (nrow_below HX2.out hb)
    have HY3 := Lib.hid (nrow_below HY2.out hb)
    have HZ3 := Lib.hid (nrow_below HZ2.out hb)
    have HB3 : Hid (Below w.heap.size w W3) := HB2.out.trans (hb.mono HB2.out.size)
    have HO3 := Lib.hid (ownsRow_bel HO2.out hb)
    clear hW3 hb x0 x1 x2 x3 x4 x5 x6 KR KV HX2 HY2 HZ2 HB2 HA2 HO2
    obtain ⟨⟨x0, x1, x2, x3, x4, x5, x6⟩, f0, f1, f2, f3, f4, f5, f6⟩ := rowN7 HX3.out
    obtain ⟨⟨y0, y1, y2, y3, y4, y5, y6⟩, g0, g1, g2, g3, g4, g5, g6⟩ := rowN7 HY3.out
    obtain ⟨⟨z0, z1, z2, z3, z4, z5, z6⟩, p0, p1, p2, p3, p4, p5, p6⟩ := rowN7 HZ3.out
    have hl0 := HX3.out.lt
    have hl1 := HY3.out.lt
    have hl2 := HZ3.out.lt
    have hX0 : ¬ X = w.heap.size := by omega
    have hX1 : ¬ X = w.heap.size + 1 := by omega
    have hX0' : ¬ w.heap.size = X := by omega
    have hX1' : ¬ w.heap.size + 1 = X := by omega
    obtain ⟨a1', c1', e1, hq, _⟩ := own_ns HO3.out
    cases e1
    have HQ3 := Lib.hid hq
    clear hq
    have zr := Lib.hid (lput7 HY3.out rfl (.int .i64 s.unit) (.int .i64 s.band) (.bool s.seen) (.int .i64 s.last) (.int .i64 s.next) (.slice a1 s.wait.length k1) (.int .i64 s.drops))
    have zb := Lib.hid (lbel7 HB3.out (g := w.heap.size + 1) (by omega) (.int .i64 s.unit) (.int .i64 s.band) (.bool s.seen) (.int .i64 s.last) (.int .i64 s.next) (.slice a1 s.wait.length k1) (.int .i64 s.drops))
    have zq : Hid (NqOwn 37 w.heap.size s.wait.length a1 (Ln.fl s.wait) ((((((((W3.setCell ⟨w.heap.size + 1, 0, none⟩ (.int .i64 s.unit)).setCell ⟨w.heap.size + 1, 1, none⟩ (.int .i64 s.band)).setCell ⟨w.heap.size + 1, 2, none⟩ (.bool s.seen)).setCell ⟨w.heap.size + 1, 3, none⟩ (.int .i64 s.last)).setCell ⟨w.heap.size + 1, 4, none⟩ (.int .i64 s.next)).setCell ⟨w.heap.size + 1, 5, none⟩ (.slice a1 s.wait.length k1)).setCell ⟨w.heap.size + 1, 6, none⟩ (.int .i64 s.drops)))) := (HQ3.out.same (fun k hk _ => lblk7 (by omega) _ _ _ _ _ _ _)).low (by omega)
    go_wp2_with fail
    refine bodyPost_ret (v := stV s a1 k1) ?_ rfl ⟨by rw [HE.out]; exact ⟨a1, k1, rfl, zq.out⟩, zb.out⟩
    obtain ⟨⟨u0, u1, u2, u3, u4, u5, u6⟩, _⟩ := rowN7 zr.out
    simp only [results, Tryz.results12]
    simp [go_sem, u0, u1, u2, u3, u4, u5, u6]
  · have HT : Hid (s.Takes v) := ⟨HC1.out, c2, c3, fun h => c5 (hzb.2 h.2)⟩
    have d5 : decide (z ≤ s.band) = false := by simpa using c5
    rw [c4] at x2
    simp only [stV, c4] at KR
    clear c3 hzb
    refine wp_region_quiet_grown hmix (by kernel_rfl) ?_
    iterate 27 go_big_quiet_step (first | (go_at_call 20; exact KR.out _ _) | (go_at_call 11; exact KV.out _ _) | (go_at_call 21; exact KA.out _ _))
    refine wpQuiet_nil ?_
    intro _ hw'
    obtain ⟨⟨nq, osq⟩, hw''⟩ := hw'
    subst hw''
    rw [← c4] at x2
    clear c4
    obtain ⟨W3, hW3⟩ : ∃ W3, W3 = Go.Sort.grow (W2.drewN nq) osq := ⟨_, rfl⟩
    rw [← hW3]
    have hb : Below W2.heap.size W2 W3 := by rw [hW3]; exact (gr_of nq osq).bel
    have HX3 := Lib.hid (nrow_below HX2.out hb)
    have HY3 := Lib.hid (nrow_below HY2.out hb)
    have HZ3 := Lib.hid (nrow_below HZ2.out hb)
    have HB3 : Hid (Below w.heap.size w W3) := HB2.out.trans (hb.mono HB2.out.size)
    have HO3 := Lib.hid (ownsRow_bel HO2.out hb)
    clear hW3 hb x0 x1 x2 x3 x4 x5 x6 KR KV HX2 HY2 HZ2 HB2 HA2 HO2
    obtain ⟨⟨x0, x1, x2, x3, x4, x5, x6⟩, f0, f1, f2, f3, f4, f5, f6⟩ := rowN7 HX3.out
    obtain ⟨⟨y0, y1, y2, y3, y4, y5, y6⟩, g0, g1, g2, g3, g4, g5, g6⟩ := rowN7 HY3.out
    obtain ⟨⟨z0, z1, z2, z3, z4, z5, z6⟩, p0, p1, p2, p3, p4, p5, p6⟩ := rowN7 HZ3.out
    have hl0 := HX3.out.lt
    have hl1 := HY3.out.lt
    have hl2 := HZ3.out.lt
    have hX0 : ¬ X = w.heap.size := by omega
    have hX1 : ¬ X = w.heap.size + 1 := by omega
    have hX0' : ¬ w.heap.size = X := by omega
    have hX1' : ¬ w.heap.size + 1 = X := by omega
    obtain ⟨-, -, -, -, ⟨nx0, nx1⟩, ⟨dr0, dr1⟩⟩ := HT.out.1.1
    have hw40 := HT.out.1.2.1
    have HE : Hid (s.note v = s.put v) := Ln.S.note_yes HT.out
    have hnx : IntKind.i64.wrap (s.next + 1) = s.next + 1 := lnwrap (by omega) (by omega)
    obtain ⟨V3, hV3⟩ : ∃ V3, V3 = (W3.setCell ⟨X, 2, none⟩ (.bool true)).setCell ⟨X, 3, none⟩ (.int .i64 v) := ⟨_, rfl⟩
    have b3 : ∀ q, q ≠ X → V3.heap[q]? = W3.heap[q]? := fun q hq => by rw [hV3]; exact (bihs _ _ _ hq _ _).trans (bihs _ _ _ hq _ _)
    have s3 : V3.heap.size = W3.heap.size := by rw [hV3]; simp
    obtain ⟨M3, hM3⟩ : ∃ M3, M3 = V3.alloc (.cells #[.int .i64 s.next, .int .i64 v] 37) := ⟨_, rfl⟩
    have hbm : Below V3.heap.size V3 M3 := by rw [hM3]; exact nbel_alloc _ _
    have HXV : Hid (V3.rowIs w.heap.size 28 7 (rowN (stL s a k))) := HX3.out.of_block (b3 _ (by omega))
    have HYV : Hid (V3.rowIs (w.heap.size + 1) 28 7 (rowN stZ)) := HY3.out.of_block (b3 _ (by omega))
    have HZV : Hid (V3.rowIs X 28 7 (rowN [.int .i64 s.unit, .int .i64 s.band, .bool true, .int .i64 v, .int .i64 s.next, .slice a1 s.wait.length k1, .int .i64 s.drops])) := by show World.rowIs _ _ _ _ _; rw [hV3]; exact rowN_put (rowN_put HZ3.out 2 _ (by simp)) 3 _ (by simp)
    have HBV : Hid (Below w.heap.size w V3) := by show Below _ _ _; rw [hV3]; exact (HB3.out.setCell (p := ⟨X, _, none⟩) (by show w.heap.size ≤ X; omega) _).setCell (p := ⟨X, _, none⟩) (by show w.heap.size ≤ X; omega) _
    have HOV : Hid (V3.ownsRow (w.heap.size + 2) 37 2 (.slice a1 s.wait.length k1) s.wait.length (nvs s.wait)) := by
      show World.ownsRow _ _ _ _ _ _ _
      have hne := own_ne HO3.out HZ3.out (by decide)
      refine ⟨HO3.out.1, ?_⟩
      rcases HO3.out.2 with h2 | ⟨g, cap, cur, e1, e2, e3, e4⟩
      · exact Or.inl h2
      · exact Or.inr ⟨g, cap, cur, e1, e2, by rw [b3 g (fun e => hne (by rw [e1, e]; rfl))]; exact e3, e4⟩
    have HXA := Lib.hid (nrow_below HXV.out hbm)
    have HYA := Lib.hid (nrow_below HYV.out hbm)
    have HZA := Lib.hid (nrow_below HZV.out hbm)
    have HBA : Hid (Below w.heap.size w M3) := HBV.out.trans (hbm.mono HBV.out.size)
    have O4 := Lib.hid (ownsRow_bel HOV.out hbm)
    have HM : Hid (IsIn (some ⟨W3.heap.size, 0, none⟩) (([(s.next, v)] : List Ln.Nt).length * 2) (Ln.fl [(s.next, v)]) M3) := by show IsIn _ _ _ _; rw [hM3, ← s3]; exact one_in V3 37 s.next v
    have hM3s : w.heap.size + 2 ≤ M3.heap.size := by have := hbm.size; omega
    have HMM : Hid (M3 = ((W3.setCell ⟨X, 2, none⟩ (.bool true)).setCell ⟨X, 3, none⟩ (.int .i64 v)).alloc (.cells #[.int .i64 s.next, .int .i64 v] 37)) := by show _ = _; rw [hM3, hV3]
    have HOB : Hid (∀ q, (Value.slice a1 s.wait.length k1).ownBlock = some q → w.heap.size + 2 ≤ q ∧ q ≠ X) := fun q hq => ⟨(O4.out.lt q hq).1, fun e => own_ne O4.out HZA.out (by decide) (by rw [hq, e])⟩
    clear hV3 hM3 b3 s3 hbm HXV HYV HZV HBV HOV HO3 HT
    have O4b := Lib.hid O4.out
    have HMb := Lib.hid HM.out
    rw [HMM.out] at O4b HMb
    go_wp2_with (at_builtin; refine wpList_append_ns (l := s.wait) (m := [(s.next, v)]) rfl _ _ 26 rfl 37 i0 (.agg #[.int .i64 0, .int .i64 0]) 16 Tryz.underlying26 hi hz0 hz1 hz2 rfl (w.heap.size + 2) _ rfl O4b.out (some ⟨W3.heap.size, 0, none⟩) 1 rfl HMb.out (by unfold maxLen; simp; omega) (by simp; omega) (by rw [← HMM.out]; exact hM3s) ?_)
    intro v5 w5 hown hgrow
    rw [← HMM.out] at hgrow
    have HB5 : Hid (Below w.heap.size w w5) := HBA.out.grown hgrow (by omega) (fun q hq => by have := (HOB.out q hq).1; omega)
    have HX5 : Hid (w5.rowIs w.heap.size 28 7 (rowN (stL s a k))) := HXA.out.of_block (hgrow.block _ HXA.out.lt (fun e => by have := (HOB.out _ e.symm).1; omega))
    have HY5 : Hid (w5.rowIs (w.heap.size + 1) 28 7 (rowN stZ)) := HYA.out.of_block (hgrow.block _ HYA.out.lt (fun e => by have := (HOB.out _ e.symm).1; omega))
    have HZ5 : Hid (w5.rowIs X 28 7 (rowN [.int .i64 s.unit, .int .i64 s.band, .bool true, .int .i64 v, .int .i64 s.next, .slice a1 s.wait.length k1, .int .i64 s.drops])) := HZA.out.of_block (hgrow.block _ HZA.out.lt (fun e => (HOB.out _ e.symm).2 rfl))
    obtain ⟨L, hL⟩ : ∃ L, L = s.wait ++ [(s.next, v)] := ⟨_, rfl⟩
    have hLl : L.length = s.wait.length + 1 := by rw [hL]; simp
    have hown2 : w5.ownsRow (w.heap.size + 2) 37 2 v5 L.length (nvs L) := by rw [hL]; simpa using hown
    clear hown
    obtain ⟨a5, k5, rfl, hq5, hf5⟩ := own_ns hown2
    have HQ5 := Lib.hid hq5
    have HF5 := Lib.hid hf5
    have HL := Lib.hid hL
    clear hown2 hgrow hq5 hf5 O4 O4b HM HMb HMM HBA HXA HYA HZA HX3 HY3 HZ3 HB3 hL HOB hM3s
    clear x0 x1 x2 x3 x4 x5 x6 f0 f1 f2 f3 f4 f5 f6 y0 y1 y2 y3 y4 y5 y6 g0 g1 g2 g3 g4 g5 g6 z0 z1 z2 z3 z4 z5 z6 p0 p1 p2 p3 p4 p5 p6 hl0 hl1 hl2
    obtain ⟨⟨x0, x1, x2, x3, x4, x5, x6⟩, f0, f1, f2, f3, f4, f5, f6⟩ := rowN7 HX5.out
    obtain ⟨⟨y0, y1, y2, y3, y4, y5, y6⟩, g0, g1, g2, g3, g4, g5, g6⟩ := rowN7 HY5.out
    obtain ⟨⟨z0, z1, z2, z3, z4, z5, z6⟩, p0, p1, p2, p3, p4, p5, p6⟩ := rowN7 HZ5.out
    have hl0 := HX5.out.lt
    have hl1 := HY5.out.lt
    have hl2 := HZ5.out.lt
    by_cases c40 : s.wait.length < 40
    · have HLen : Hid (L.length = s.wait.length + 1) := hLl
      have hgt : ¬ (40 : Int) < (L.length : Int) := by omega
      clear hLl
      have HP : Hid (s.put v = ⟨s.unit, s.band, true, v, s.next + 1, L, s.drops⟩) := by show _ = _; unfold Ln.S.put; rw [if_pos c40, HL.out]
      obtain ⟨N, hN⟩ : ∃ N, N = L.length := ⟨_, rfl⟩
      rw [← hN] at hgt ⊢
      have HNL := Lib.hid hN
      clear hN
      obtain ⟨V, hV⟩ : ∃ V, V = ((w5.setCell ⟨X, 5, none⟩ (.slice a5 N k5)).setCell ⟨X, 4, none⟩ (.int .i64 (s.next + 1))) := ⟨_, rfl⟩
      have bV : ∀ q, q ≠ X → V.heap[q]? = w5.heap[q]? := fun q hq => by rw [hV]; exact (bihs _ _ _ hq _ _).trans ((bihs _ _ _ hq _ _).trans (rfl))
      have HBV : Hid (Below w.heap.size w V) := by show Below _ _ _; rw [hV]; exact ((HB5.out.setCell (p := ⟨X, _, none⟩) (by show w.heap.size ≤ X; omega) _).setCell (p := ⟨X, _, none⟩) (by show w.heap.size ≤ X; omega) _)
      have HYV : Hid (V.rowIs (w.heap.size + 1) 28 7 (rowN stZ)) := HY5.out.of_block (bV _ (by omega))
      have HQV : Hid (NqOwn 37 (w.heap.size + 2) L.length a5 (Ln.fl L) V) := HQ5.out.off2 HZ5.out (by decide) bV
      have HV := Lib.hid hV
      clear hV bV
      have zr := Lib.hid (lput7 HYV.out rfl (.int .i64 s.unit) (.int .i64 s.band) (.bool true) (.int .i64 v) (.int .i64 (s.next + 1)) (.slice a5 N k5) (.int .i64 s.drops))
      have zb := Lib.hid (lbel7 HBV.out (g := w.heap.size + 1) (by omega) (.int .i64 s.unit) (.int .i64 s.band) (.bool true) (.int .i64 v) (.int .i64 (s.next + 1)) (.slice a5 N k5) (.int .i64 s.drops))
      have zq : Hid (NqOwn 37 w.heap.size L.length a5 (Ln.fl L) ((((((((V.setCell ⟨w.heap.size + 1, 0, none⟩ (.int .i64 s.unit)).setCell ⟨w.heap.size + 1, 1, none⟩ (.int .i64 s.band)).setCell ⟨w.heap.size + 1, 2, none⟩ (.bool true)).setCell ⟨w.heap.size + 1, 3, none⟩ (.int .i64 v)).setCell ⟨w.heap.size + 1, 4, none⟩ (.int .i64 (s.next + 1))).setCell ⟨w.heap.size + 1, 5, none⟩ (.slice a5 N k5)).setCell ⟨w.heap.size + 1, 6, none⟩ (.int .i64 s.drops)))) := (HQV.out.same (fun k hk _ => lblk7 (by omega) _ _ _ _ _ _ _)).low (by omega)
      rw [HV.out] at zr zb zq
      clear HV HBV HYV HQV HQ5 HF5 HB5 HX5 HY5 HZ5
      go_wp2_with fail
      refine bodyPost_ret (v := stV ⟨s.unit, s.band, true, v, s.next + 1, L, s.drops⟩ a5 k5) ?_ rfl ⟨by rw [HE.out, HP.out]; exact ⟨_, _, rfl, zq.out⟩, zb.out⟩
      obtain ⟨⟨u0, u1, u2, u3, u4, u5, u6⟩, _⟩ := rowN7 zr.out
      simp only [results, Tryz.results12]
      simp only [stV, ← HNL.out]
      simp [go_sem, u0, u1, u2, u3, u4, u5, u6]
    · have hgt : (40 : Int) < (L.length : Int) := by omega
      have HP : Hid (s.put v = ⟨s.unit, s.band, true, v, s.next + 1, L.tail, s.drops + 1⟩) := by show _ = _; unfold Ln.S.put; rw [if_neg c40, HL.out]
      have hdr : IntKind.i64.wrap (s.drops + 1) = s.drops + 1 := lnwrap (by omega) (by omega)
      obtain ⟨gg, rfl, hg5, hlk, FF, hrow, hFF⟩ : ∃ g, a5 = some ⟨g, 0, none⟩ ∧ w.heap.size + 2 ≤ g ∧ L.length ≤ k5 ∧ ∃ F, w5.rowIs g 37 (k5 * 2) F ∧ ∀ j, j < L.length * 2 → F j = .int .i64 (Ln.fl L j) := by
        rcases HF5.out with ⟨_, h, _⟩ | h
        · omega
        · exact h
      obtain ⟨N, hN⟩ : ∃ N, L.length = N + 1 := ⟨L.length - 1, by omega⟩
      obtain ⟨C, hC⟩ : ∃ C, k5 = C + 1 := ⟨k5 - 1, by omega⟩
      subst hC
      have HTL : Hid (L.tail.length = N) := by show _ = _; simp; omega
      have HQ6 : Hid (NqOwn 37 (w.heap.size + 2) L.tail.length (some ⟨gg, 2, none⟩) (Ln.fl L.tail) w5) := Or.inr ⟨gg, 2, rfl, hg5, (C + 1) * 2, FF, by rw [HTL.out]; omega, hrow, fun j hj => by rw [Ln.fl_tail]; exact hFF (2 + j) (by rw [HTL.out] at hj; omega)⟩
      rw [hN] at hgt hlk ⊢
      have hk1 : (1 : Int) ≤ ((N + 1 : Nat) : Int) := by omega
      have hk2 : ((N + 1 : Nat) : Int) ≤ ((C + 1 : Nat) : Int) := by omega
      have HHN := Lib.hid hN
      clear hN hrow hFF hLl
      obtain ⟨V, hV⟩ : ∃ V, V = ((((w5.setCell ⟨X, 5, none⟩ (.slice (some ⟨gg, 0, none⟩) (N + 1) (C + 1))).setCell ⟨X, 4, none⟩ (.int .i64 (s.next + 1))).setCell ⟨X, 5, none⟩ (.slice (some ⟨gg, 2, none⟩) N C)).setCell ⟨X, 6, none⟩ (.int .i64 (s.drops + 1))) := ⟨_, rfl⟩
      have bV : ∀ q, q ≠ X → V.heap[q]? = w5.heap[q]? := fun q hq => by rw [hV]; exact (bihs _ _ _ hq _ _).trans ((bihs _ _ _ hq _ _).trans ((bihs _ _ _ hq _ _).trans ((bihs _ _ _ hq _ _).trans (rfl))))
      have HBV : Hid (Below w.heap.size w V) := by show Below _ _ _; rw [hV]; exact ((((HB5.out.setCell (p := ⟨X, _, none⟩) (by show w.heap.size ≤ X; omega) _).setCell (p := ⟨X, _, none⟩) (by show w.heap.size ≤ X; omega) _).setCell (p := ⟨X, _, none⟩) (by show w.heap.size ≤ X; omega) _).setCell (p := ⟨X, _, none⟩) (by show w.heap.size ≤ X; omega) _)
      have HYV : Hid (V.rowIs (w.heap.size + 1) 28 7 (rowN stZ)) := HY5.out.of_block (bV _ (by omega))
      have HQV : Hid (NqOwn 37 (w.heap.size + 2) L.tail.length (some ⟨gg, 2, none⟩) (Ln.fl L.tail) V) := HQ6.out.off2 HZ5.out (by decide) bV
      have HV := Lib.hid hV
      clear hV bV
      have zr := Lib.hid (lput7 HYV.out rfl (.int .i64 s.unit) (.int .i64 s.band) (.bool true) (.int .i64 v) (.int .i64 (s.next + 1)) (.slice (some ⟨gg, 2, none⟩) N C) (.int .i64 (s.drops + 1)))
      have zb := Lib.hid (lbel7 HBV.out (g := w.heap.size + 1) (by omega) (.int .i64 s.unit) (.int .i64 s.band) (.bool true) (.int .i64 v) (.int .i64 (s.next + 1)) (.slice (some ⟨gg, 2, none⟩) N C) (.int .i64 (s.drops + 1)))
      have zq : Hid (NqOwn 37 w.heap.size L.tail.length (some ⟨gg, 2, none⟩) (Ln.fl L.tail) ((((((((V.setCell ⟨w.heap.size + 1, 0, none⟩ (.int .i64 s.unit)).setCell ⟨w.heap.size + 1, 1, none⟩ (.int .i64 s.band)).setCell ⟨w.heap.size + 1, 2, none⟩ (.bool true)).setCell ⟨w.heap.size + 1, 3, none⟩ (.int .i64 v)).setCell ⟨w.heap.size + 1, 4, none⟩ (.int .i64 (s.next + 1))).setCell ⟨w.heap.size + 1, 5, none⟩ (.slice (some ⟨gg, 2, none⟩) N C)).setCell ⟨w.heap.size + 1, 6, none⟩ (.int .i64 (s.drops + 1))))) := (HQV.out.same (fun k hk _ => lblk7 (by omega) _ _ _ _ _ _ _)).low (by omega)
      rw [HV.out] at zr zb zq
      clear HV HBV HYV HQV HQ5 HF5 HB5 HX5 HY5 HZ5
      go_wp2_with fail
      refine bodyPost_ret (v := stV ⟨s.unit, s.band, true, v, s.next + 1, L.tail, s.drops + 1⟩ (some ⟨gg, 2, none⟩) C) ?_ rfl ⟨by rw [HE.out, HP.out]; exact ⟨_, _, rfl, zq.out⟩, zb.out⟩
      obtain ⟨⟨u0, u1, u2, u3, u4, u5, u6⟩, _⟩ := rowN7 zr.out
      simp only [results, Tryz.results12]
      simp only [stV, HTL.out]
      simp [go_sem, u0, u1, u2, u3, u4, u5, u6]
end Go.Proofs.YtdlojhncbgfjbaaGreatDoor
