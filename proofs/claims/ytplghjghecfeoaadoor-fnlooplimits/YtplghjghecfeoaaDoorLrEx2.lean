/-
  The laws' comparison and marks of a loop's whole answer.
-/
import Derived.Test.YtplghjghecfeoaaDoorLrEx
namespace Go.Proofs.YtplghjghecfeoaaDoor
open Go.RowKit Go.Deep

attribute [local go_sem] lrun_store_float lrun_store_complex
/-- Blocks of which P holds alone may have changed. -/
structure OnlyP (P : Nat → Prop) (w w' : World) : Prop where
  os : w'.os = w.os
  tape : w'.tape = w.tape
  output : w'.output = w.output
  size : w.heap.size ≤ w'.heap.size
  block : ∀ k, k < w.heap.size → ¬ P k → w'.heap[k]? = w.heap[k]?
theorem OnlyP.of_below {P : Nat → Prop} {w w' : World} (h : Below w.heap.size w w') : OnlyP P w w' := ⟨h.os, h.tape, h.output, h.size, fun k hk _ => h.block k hk⟩
theorem OnlyP.of_grown {P : Nat → Prop} {w w' : World} {row : Option Nat} (h : w.grownBy w' row) (hP : ∀ k, row = some k → P k) : OnlyP P w w' := ⟨h.os, h.tape, h.output, h.size, fun k hk hn => h.block k hk (fun e => hn (hP k e.symm))⟩
theorem OnlyP.trans {P : Nat → Prop} {a b c : World} (h : OnlyP P a b) (k : OnlyP P b c) : OnlyP P a c := ⟨k.os.trans h.os, k.tape.trans h.tape, k.output.trans h.output, Nat.le_trans h.size k.size, fun i hi hn => (k.block i (Nat.lt_of_lt_of_le hi h.size) hn).trans (h.block i hi hn)⟩
theorem OnlyP.below {P : Nat → Prop} {B : Nat} {w w' : World} (h : OnlyP P w w') (hP : ∀ k, P k → B ≤ k) (hB : B ≤ w.heap.size) : Below B w w' := ⟨h.os, h.tape, h.output, h.size, fun k hk => h.block k (by omega) (fun hp => by have := hP k hp; omega)⟩
theorem OwnF.only {P : Nat → Prop} {B : Nat} {v : Value} {n : Nat} {f : Nat → Nat} {W W' : World} (h : OwnF B v n f W) (ho : OnlyP P W W') (hP : ∀ k, v.ownBlock = some k → ¬ P k) : OwnF B v n f W' := by
  have hlt := World.ownsRow.lt h
  obtain ⟨h1, h2⟩ := h
  refine ⟨h1, ?_⟩
  rcases h2 with h2 | ⟨g, cap, cur, e1, e2, e3, e4⟩
  · exact Or.inl h2
  · have hb : v.ownBlock = some g := by rw [e1]; rfl
    exact Or.inr ⟨g, cap, cur, e1, e2, (ho.block g (hlt g hb).2 (hP g hb)).trans e3, e4⟩
theorem Two.only {P : Nat → Prop} {B : Nat} {v1 : Value} {n1 : Nat} {f1 : Nat → Nat} {v2 : Value} {n2 : Nat} {f2 : Nat → Nat} {W W' : World} (h : Two B v1 n1 f1 v2 n2 f2 W) (ho : OnlyP P W W') (h1 : ∀ k, v1.ownBlock = some k → ¬ P k) (h2 : ∀ k, v2.ownBlock = some k → ¬ P k) : Two B v1 n1 f1 v2 n2 f2 W' := ⟨h.one.only ho h1, h.two.only ho h2, h.ne⟩
abbrev loOutV (v1 v2 : Value) (c : Int) : Value := .agg #[v1, v2, .int .i64 c]
set_option maxHeartbeats 1000000 in
theorem toFl_own (a : Option Addr) (n cap : Nat) (f : Nat → Nat) (w : World) (h : FlIn a n f w) (hn : n ≤ 1048576) :
    Calls Tryd.prog 11 #[.slice a n cap] w fun e w' => e = .returned (.slice (some ⟨w.heap.size, 0, none⟩) n n) ∧ OwnF w.heap.size (.slice (some ⟨w.heap.size, 0, none⟩) n n) n f w' ∧ Below w.heap.size w w' := by
  have hmk := run_make_row' (P := Tryd.prog) 26 23 (.float .f64 0) 8 Tryd.underlying26 linfo_f64 rfl .i64 .i64 n (by omega) (by omega)
  have H := Lib.hid h
  clear h
  go_enter Tryd.func11, Tryd.ntmps11
  go_wp2
  clear hmk
  go_loopw [4] (fun i wx => ∃ k : Nat, k ≤ n ∧ i = .int .i64 k ∧ wx.rowIs w.heap.size 23 n (fun j => .float .f64 (if j < k then f j else 0)) ∧ Below w.heap.size w wx) (fun i _ => n - (intOf i).toNat)
  case atStart => exact ⟨0, Nat.zero_le _, rfl, (World.rowIs_made w (.float .f64 0) n 23).congr (fun i _ => by simp), (Below.refl _ _).alloc (Nat.le_refl _) _⟩
  case round =>
    obtain ⟨k, hk, rfl, hrow, hbel⟩ := hrel
    by_cases hlt : k < n
    · have hltz : (k : Int) < (n : Int) := by omega
      rcases H.out with h0 | ⟨b, off, rfl, hc⟩
      · omega
      have hblt : b < w.heap.size := World.block_lt_of_cell? _ _ (hc k hlt)
      have c0 := (hbel.cell (p := ⟨b, off + k, none⟩) hblt).trans (hc k hlt)
      have c1 := hrow.cell hlt
      have c2 := hrow.frozen k
      have Hrow : Hid (World.rowIs _ w.heap.size 23 n _) := hrow
      clear hrow hc
      go_wp2
      go_roundw
      case rel => exact ⟨k + 1, by omega, by go_num, (Hrow.out.set k _).congr (fun j hj => by
        by_cases e : j = k
        · subst e; simp
        · rw [if_neg e]; congr 1; by_cases e2 : j < k
          · rw [if_pos e2, if_pos (by omega)]
          · rw [if_neg e2, if_neg (by omega)]), hbel.setCell (Nat.le_refl _) _⟩
      case measure => simp [intOf]; omega
    · obtain rfl : k = n := by omega
      have Hrow : Hid (World.rowIs _ w.heap.size 23 k _) := hrow
      clear hrow
      go_wp2
      go_ret
      exact ⟨rfl, rowF_of Hrow.out (Nat.le_refl _) (by unfold maxLen; omega) (Nat.le_refl _) (fun j hj => by rw [if_pos hj]), hbel⟩
set_option maxRecDepth 100000 in
set_option maxHeartbeats 2000000 in
theorem eqLo_same (v1 v2 u1 u2 : Value) (m : Nat) (c : Int) (f1 f2 : Nat → Nat) (B B' : Nat) (w : World) (h : Two B v1 m f1 v2 m f2 w) (h' : Two B' u1 m f1 u2 m f2 w) (hm : m ≤ 1048576) :
    Calls Tryd.prog 12 #[loOutV v1 v2 c, loOutV u1 u2 c] w fun e w' => e = .returned (.bool true) ∧ Below w.heap.size w w' := by
  obtain ⟨a1, k1, rfl, A1⟩ := h.one.sl
  obtain ⟨a2, k2, rfl, A2⟩ := h.two.sl
  obtain ⟨b1, l1, rfl, B1⟩ := h'.one.sl
  obtain ⟨b2, l2, rfl, B2⟩ := h'.two.sl
  obtain ⟨W, hW⟩ : ∃ W, W = (w.alloc (.cells #[.slice a1 m k1, .slice a2 m k2, .int .i64 c] 30)).alloc (.cells #[.slice b1 m l1, .slice b2 m l2, .int .i64 c] 30) := ⟨_, rfl⟩
  have HB : Hid (Below w.heap.size w W) := by show Below _ _ _; rw [hW]; exact (bel_alloc _ _).alloc (by simp) _
  have HX : Hid (W.rowIs w.heap.size 30 3 (rowL (outL (.slice a1 m k1) (.slice a2 m k2) c))) := by show World.rowIs _ _ _ _ _; rw [hW]; exact wrow_below (rowL_alloc w (outL (.slice a1 m k1) (.slice a2 m k2) c) _) (bel_alloc _ _)
  have HY : Hid (W.rowIs (w.heap.size + 1) 30 3 (rowL (outL (.slice b1 m l1) (.slice b2 m l2) c))) := by show World.rowIs _ _ _ _ _; rw [hW]; exact rowL_alloc' (by simp) (outL (.slice b1 m l1) (.slice b2 m l2) c) _
  have HA1 := Lib.hid A1
  have HA2 := Lib.hid A2
  have HB1 := Lib.hid B1
  have HB2 := Lib.hid B2
  have HW := Lib.hid hW
  clear hW A1 A2 B1 B2 h h'
  go_enter Tryd.func12, Tryd.ntmps12
  go_wp2_with fail
  rw [← HW.out]
  clear HW
  refine (eqFl_same a1 b1 m k1 l1 f1 _ (HA1.out.below HB.out) (HB1.out.below HB.out) hm).mono ?_
  rintro e w1 ⟨rfl, hb⟩
  replace HX := Lib.hid (wrow_below HX.out hb)
  replace HY := Lib.hid (wrow_below HY.out hb)
  replace HB : Hid (Below w.heap.size w w1) := HB.out.trans (hb.mono HB.out.size)
  clear hb
  obtain ⟨⟨x0, x1, x2⟩, _⟩ := row3_cells HX.out
  obtain ⟨⟨y0, y1, y2⟩, _⟩ := row3_cells HY.out
  go_wp2_with fail
  clear x0 x1 x2 y0 y1 y2
  refine (eqFl_same a2 b2 m k2 l2 f2 _ (HA2.out.below HB.out) (HB2.out.below HB.out) hm).mono ?_
  rintro e w2 ⟨rfl, hb⟩
  replace HX := Lib.hid (wrow_below HX.out hb)
  replace HY := Lib.hid (wrow_below HY.out hb)
  replace HB : Hid (Below w.heap.size w w2) := HB.out.trans (hb.mono HB.out.size)
  clear hb
  obtain ⟨⟨x0, x1, x2⟩, _⟩ := row3_cells HX.out
  obtain ⟨⟨y0, y1, y2⟩, _⟩ := row3_cells HY.out
  go_wp2_with fail
  go_ret
  exact ⟨rfl, HB.out⟩
/-- The blocks of two lists. -/
def In2 (v1 v2 : Value) (k : Nat) : Prop := v1.ownBlock = some k ∨ v2.ownBlock = some k
set_option maxRecDepth 100000 in
set_option maxHeartbeats 2000000 in
theorem markLo_any (B : Nat) (v1 v2 : Value) (m : Nat) (c : Int) (f1 f2 : Nat → Nat) (w : World) (h : Two B v1 m f1 v2 m f2 w) (hm : m ≤ 1048576) :
    Calls Tryd.prog 15 #[loOutV v1 v2 c, .int .i64 1] w fun e w' => e = .returned (.int .i64 ((1 + m + m : Nat) : Int)) ∧ Two B v1 m (mkW 1) v2 m (mkW (1 + m)) w' ∧ OnlyP (In2 v1 v2) w w' := by
  obtain ⟨a1, k1, e1, _⟩ := h.one.sl
  obtain ⟨a2, k2, e2, _⟩ := h.two.sl
  have H := Lib.hid h
  have HL1 := Lib.hid (fun k hk => (World.ownsRow.lt h.one k hk).2)
  have HL2 := Lib.hid (fun k hk => (World.ownsRow.lt h.two k hk).2)
  obtain ⟨W, hW⟩ : ∃ W, W = w.alloc (.cells #[v1, v2, .int .i64 c] 30) := ⟨_, rfl⟩
  have hb0 : Below w.heap.size w W := by rw [hW]; exact bel_alloc _ _
  have HX : Hid (W.rowIs w.heap.size 30 3 (rowL (outL v1 v2 c))) := by show World.rowIs _ _ _ _ _; rw [hW]; exact rowL_alloc w (outL v1 v2 c) _
  have HT := Lib.hid (h.below hb0)
  have HO : Hid (OnlyP (In2 v1 v2) w W) := OnlyP.of_below hb0
  have HW := Lib.hid hW
  clear hW h hb0
  have E1 := Lib.hid e1
  have E2 := Lib.hid e2
  rw [e1, e2]
  clear e1 e2
  have HWE : Hid (W = w.alloc (.cells #[.slice a1 m k1, .slice a2 m k2, .int .i64 c] 30)) := by show _ = _; rw [HW.out, E1.out, E2.out]
  have hm0 := hm
  go_enter Tryd.func15, Tryd.ntmps15
  go_wp2_with fail
  rw [← HWE.out]
  clear HWE HW
  refine (by have := markFl_any B v1 m 1 f1 W HT.out.one hm (by omega); rw [E1.out] at this; exact this : Calls Tryd.prog 14 #[.slice a1 m k1, .int .i64 1] W _).mono ?_
  rintro e w1 ⟨rfl, hown, hg⟩
  rw [← E1.out] at hown hg
  have hoP : OnlyP (In2 v1 v2) W w1 := OnlyP.of_grown hg (fun k e => Or.inl e)
  have HT1 : Hid (Two B v1 m (mkW 1) v2 m f2 w1) := ⟨hown, HT.out.two.only (P := fun k => v1.ownBlock = some k) (OnlyP.of_grown hg (fun k e => e)) (fun k hk e => HT.out.ne k e hk), HT.out.ne⟩
  replace HX : Hid (w1.rowIs w.heap.size 30 3 (rowL (outL v1 v2 c))) := HX.out.of_block (hoP.block _ HX.out.lt (fun hp => by
    rcases hp with hp | hp
    · exact Nat.lt_irrefl _ (HL1.out _ hp)
    · exact Nat.lt_irrefl _ (HL2.out _ hp)))
  replace HO : Hid (OnlyP (In2 v1 v2) w w1) := HO.out.trans hoP
  clear hown hg hoP HT
  have x1 : w1.cell? ⟨w.heap.size, 1, none⟩ = some (.slice a2 m k2) := by rw [← E2.out]; exact HX.out.cell (i := 1) (by omega)
  obtain ⟨K, hK⟩ : ∃ K : Nat, K = 1 + m := ⟨_, rfl⟩
  rw [← hK]
  have hK2 : K ≤ 4194304 := by omega
  have HK := Lib.hid hK
  clear hK
  go_wp2_with fail
  clear x1
  refine (by have := markFl_any B v2 m K f2 w1 HT1.out.two hm hK2; rw [E2.out] at this; exact this : Calls Tryd.prog 14 #[.slice a2 m k2, .int .i64 (K : Int)] w1 _).mono ?_
  rintro e w2 ⟨rfl, hown, hg⟩
  rw [← E2.out] at hown hg
  have hoP : OnlyP (In2 v1 v2) w1 w2 := OnlyP.of_grown hg (fun k e => Or.inr e)
  have HT2 : Hid (Two B v1 m (mkW 1) v2 m (mkW K) w2) := ⟨HT1.out.one.only (P := fun k => v2.ownBlock = some k) (OnlyP.of_grown hg (fun k e => e)) (fun k hk e => HT1.out.ne k hk e), hown, HT1.out.ne⟩
  replace HO : Hid (OnlyP (In2 v1 v2) w w2) := HO.out.trans hoP
  clear hown hg hoP HT1
  go_wp2_with fail
  go_ret
  refine ⟨?_, ?_, ?_⟩
  · show Ending.returned (.int .i64 ((K + m : Nat) : Int)) = _
    rw [HK.out]
  · have h2 := HT2.out
    rw [HK.out, E1.out, E2.out] at h2
    exact h2
  · have h2 := HO.out
    rw [E1.out, E2.out] at h2
    exact h2
set_option maxRecDepth 100000 in
set_option maxHeartbeats 2000000 in
theorem heldLo_any (B : Nat) (v1 v2 : Value) (m : Nat) (c : Int) (w : World) (h : Two B v1 m (mkW 1) v2 m (mkW (1 + m)) w) (hm : m ≤ 1048576) :
    Calls Tryd.prog 16 #[loOutV v1 v2 c, .int .i64 1] w fun e w' => e = .returned (.int .i64 ((1 + m + m : Nat) : Int)) ∧ Below w.heap.size w w' := by
  obtain ⟨a1, k1, e1, _⟩ := h.one.sl
  obtain ⟨a2, k2, e2, _⟩ := h.two.sl
  subst e1 e2
  obtain ⟨W, hW⟩ : ∃ W, W = w.alloc (.cells #[.slice a1 m k1, .slice a2 m k2, .int .i64 c] 30) := ⟨_, rfl⟩
  have HB : Hid (Below w.heap.size w W) := by show Below _ _ _; rw [hW]; exact bel_alloc _ _
  have HX : Hid (W.rowIs w.heap.size 30 3 (rowL (outL (.slice a1 m k1) (.slice a2 m k2) c))) := by show World.rowIs _ _ _ _ _; rw [hW]; exact rowL_alloc w (outL (.slice a1 m k1) (.slice a2 m k2) c) _
  have H := Lib.hid h
  have HW := Lib.hid hW
  clear hW h
  obtain ⟨K, hK⟩ : ∃ K : Nat, K = 1 + m := ⟨_, rfl⟩
  have hK2 : K ≤ 4194304 := by omega
  have HK := Lib.hid hK
  clear hK
  go_enter Tryd.func16, Tryd.ntmps16
  go_wp2_with fail
  rw [← HW.out]
  clear HW
  refine (heldFl_any B _ m 1 _ (H.out.one.below HB.out) hm (by omega)).mono ?_
  rintro e w1 ⟨rfl, hb⟩
  replace HX := Lib.hid (wrow_below HX.out hb)
  replace HB : Hid (Below w.heap.size w w1) := HB.out.trans (hb.mono HB.out.size)
  clear hb
  rw [← HK.out]
  obtain ⟨⟨x0, x1, x2⟩, _⟩ := row3_cells HX.out
  have hk0 : ¬ (K : Int) < 0 := by omega
  go_wp2_with fail
  clear x0 x1 x2
  refine (heldFl_any B _ m K _ (by have := H.out.two.below HB.out; rw [← HK.out] at this; exact this) hm hK2).mono ?_
  rintro e w2 ⟨rfl, hb⟩
  replace HB : Hid (Below w.heap.size w w2) := HB.out.trans (hb.mono HB.out.size)
  clear hb
  obtain ⟨K3, hK3⟩ : ∃ K3 : Nat, K3 = K + m := ⟨_, rfl⟩
  have HK3 := Lib.hid hK3
  rw [← hK3]
  have hk3 : ¬ (K3 : Int) < 0 := by omega
  clear hK3
  go_wp2_with fail
  go_ret
  refine ⟨?_, HB.out⟩
  have h1 := HK.out
  have h2 := HK3.out
  show Ending.returned (.int .i64 (K3 : Int)) = _
  rw [h2, h1]
end Go.Proofs.YtplghjghecfeoaaDoor
