/-
  Joined: LnMath3, LnSd, LnI3, LnPo, LnNo, LnTk, LnMt, LnLo, FrScan, LnMs.
-/
import Derived.Test.YtdlojhncbgfjbaaGreatDoorLnMath2
import Derived.Test.YtdlojhncbgfjbaaGreatDoorLnI2
import Derived.Test.YtdlojhncbgfjbaaGreatDoorLnS1
import Derived.Test.YtdlojhncbgfjbaaGreatDoorFrI2
import Derived.Test.YtdlojhncbgfjbaaGreatDoorDecW
import Derived.Test.YtdlojhncbgfjbaaGreatDoorTextB
import Derived.Test.YtdlojhncbgfjbaaGreatDoorReg
import Derived.Lib.ConvBytes
import Derived.Laws.IdiomStrings
import Derived.Test.YtdlojhncbgfjbaaGreatDoorLnS2
import Derived.Test.YtdlojhncbgfjbaaGreatDoorMuSh
import Derived.Conc.MuLone
import Derived.Laws.LoneSync
import Derived.Test.YtdlojhncbgfjbaaGreatDoorShelfB
import Derived.Test.YtdlojhncbgfjbaaGreatDoorReadNum
import Derived.Test.YtdlojhncbgfjbaaGreatDoorEt
import Derived.Deep.RegionHeld3
import Derived.BigQuiet
import Derived.Deep.QuietTactic
import Derived.Test.YtdlojhncbgfjbaaGreatDoorFrI9
import Derived.Test.YtdlojhncbgfjbaaGreatDoorFrRead
import Derived.Test.YtdlojhncbgfjbaaGreatDoorScBase
namespace Go.Proofs.YtdlojhncbgfjbaaGreatDoor
namespace Ln
def S.new (u b : Int) : S := ⟨u, b, false, 0, 1, [], 0⟩
def S.zero : S := ⟨0, 0, false, 0, 0, [], 0⟩
def M.new : M := ⟨0, [], 0⟩
/-- An event that is right: its kind and its value. -/
def EvOk (k v : Int) : Prop := (k = 1 ∧ -1000000 ≤ v ∧ v ≤ 1000000) ∨ (k = 2 ∧ 0 ≤ v ∧ v ≤ 2)
/-- Station and master behind an event. -/
noncomputable def meet (u : Int) (s : S × M) (k v : Int) : S × M :=
  if k = 1 then (s.1.note v, s.2) else if v = 2 then s else (if v = 0 then s.1.heard (s.2.take u s.1.send).seq else s.1, s.2.take u s.1.send)
/-- Behind n events. -/
noncomputable def run (u b : Int) (f : Nat → Int) : Nat → S × M
  | 0 => (S.new u b, M.new)
  | n + 1 => meet u (run u b f n) (f (n * 2)) (f (n * 2 + 1))
theorem meet_value (u : Int) (s : S) (m : M) {k v : Int} (h : k = 1) : meet u (s, m) k v = (s.note v, m) := by unfold meet; rw [if_pos h]
theorem meet_lost (u : Int) (s : S) (m : M) {k v : Int} (h : k ≠ 1) (h2 : v = 2) : meet u (s, m) k v = (s, m) := by unfold meet; rw [if_neg h, if_pos h2]
theorem meet_good (u : Int) (s : S) (m : M) {k v : Int} (h : k ≠ 1) (h2 : v = 0) : meet u (s, m) k v = (s.heard (m.take u s.send).seq, m.take u s.send) := by unfold meet; rw [if_neg h, if_neg (by omega), if_pos h2]
theorem meet_unheard (u : Int) (s : S) (m : M) {k v : Int} (h : k ≠ 1) (h2 : v ≠ 2) (h3 : v ≠ 0) : meet u (s, m) k v = (s, m.take u s.send) := by unfold meet; rw [if_neg h, if_neg h2, if_neg h3]
theorem run_at {u b : Int} {f : Nat → Int} {n : Nat} {s : S} {m : M} (h : run u b f n = (s, m)) : run u b f (n + 1) = meet u (s, m) (f (n * 2)) (f (n * 2 + 1)) := by show meet u (run u b f n) _ _ = _; rw [h]
theorem send_len (s : S) : s.send.length ≤ 640 := by
  by_cases k : s.Right
  · rw [S.send_yes k]
    have h1 := texts_len k.fine
    have h2 := k.2.1
    omega
  · rw [S.send_no k]; simp
theorem meet_len (u : Int) (s : S × M) (k v : Int) (h : s.1.wait.length ≤ 1048576 ∧ s.2.notes.length ≤ 1048576) : (meet u s k v).1.wait.length ≤ 1048576 ∧ (meet u s k v).2.notes.length ≤ 1048576 := by
  obtain ⟨s, m⟩ := s
  by_cases c : k = 1
  · rw [meet_value u s m c]; exact ⟨note_len1 s v h.1, h.2⟩
  by_cases c2 : v = 2
  · rw [meet_lost u s m c c2]; exact h
  by_cases c3 : v = 0
  · rw [meet_good u s m c c3]; exact ⟨heard_len1 s _ h.1, take_len m u _ h.2⟩
  · rw [meet_unheard u s m c c2 c3]; exact ⟨h.1, take_len m u _ h.2⟩
theorem run_len (u b : Int) (f : Nat → Int) (n : Nat) : (run u b f n).1.wait.length ≤ 1048576 ∧ (run u b f n).2.notes.length ≤ 1048576 := by
  induction n with
  | zero => exact ⟨by show (0 : Nat) ≤ _; omega, by show (0 : Nat) ≤ _; omega⟩
  | succ n ih => exact meet_len u _ _ _ ih
def EvsOk (f : Nat → Int) (n : Nat) : Prop := ∀ i, i < n → EvOk (f (i * 2)) (f (i * 2 + 1))
theorem EvsOk.zero (f : Nat → Int) : EvsOk f 0 := fun _ h => absurd h (Nat.not_lt_zero _)
theorem EvsOk.step {f : Nat → Int} {n : Nat} (h : EvsOk f n) (h1 : EvOk (f (n * 2)) (f (n * 2 + 1))) : EvsOk f (n + 1) := fun i hi => by
  by_cases c : i < n
  · exact h i c
  · obtain rfl : i = n := by omega
    exact h1
/-- A station that may be new. -/
def Fit (u b : Int) : Prop := (0 ≤ u ∧ u ≤ 250) ∧ (0 ≤ b ∧ b ≤ 1000000)
theorem new_right {u b : Int} : (S.new u b).Right ↔ Fit u b :=
  ⟨fun h => ⟨h.1.1, h.1.2.1⟩, fun h => ⟨⟨h.1, h.2, ⟨by show (-1000000 : Int) ≤ 0; omega, by show (0 : Int) ≤ 1000000; omega⟩, fun _ => rfl, ⟨by show (1 : Int) ≤ 1; omega, by show (1 : Int) ≤ 60000; omega⟩, ⟨by show (0 : Int) ≤ 0; omega, by show (0 : Int) ≤ 60000; omega⟩⟩, by show (0 : Nat) ≤ 40; omega, Wt.zero _ _⟩⟩
open Classical in
/-- A run's code. -/
noncomputable def lcode (u b : Int) (f : Nat → Int) (n : Nat) : Int := if 200 < n then 2 else if Fit u b ∧ EvsOk f n then 0 else 1
open Classical in
noncomputable def lst (u b : Int) (f : Nat → Int) (n : Nat) : S := if lcode u b f n = 0 then (run u b f n).1 else S.zero
open Classical in
noncomputable def lma (u b : Int) (f : Nat → Int) (n : Nat) : M := if lcode u b f n = 0 then (run u b f n).2 else M.new
theorem lout_big {u b : Int} {f : Nat → Int} {n : Nat} (h : 200 < n) : lcode u b f n = 2 ∧ lst u b f n = S.zero ∧ lma u b f n = M.new := by
  have e : lcode u b f n = 2 := if_pos h
  exact ⟨e, by unfold lst; rw [e, if_neg (by omega)], by unfold lma; rw [e, if_neg (by omega)]⟩
theorem lout_no {u b : Int} {f : Nat → Int} {n : Nat} (h : n ≤ 200) (h2 : ¬ (Fit u b ∧ EvsOk f n)) : lcode u b f n = 1 ∧ lst u b f n = S.zero ∧ lma u b f n = M.new := by
  have e : lcode u b f n = 1 := by unfold lcode; rw [if_neg (by omega), if_neg h2]
  exact ⟨e, by unfold lst; rw [e, if_neg (by omega)], by unfold lma; rw [e, if_neg (by omega)]⟩
theorem lout_yes {u b : Int} {f : Nat → Int} {n : Nat} (h : n ≤ 200) (h1 : Fit u b) (h2 : EvsOk f n) : lcode u b f n = 0 ∧ lst u b f n = (run u b f n).1 ∧ lma u b f n = (run u b f n).2 := by
  have e : lcode u b f n = 0 := by unfold lcode; rw [if_neg (by omega), if_pos ⟨h1, h2⟩]
  exact ⟨e, by unfold lst; rw [if_pos e], by unfold lma; rw [if_pos e]⟩
theorem lst_len (u b : Int) (f : Nat → Int) (n : Nat) : (lst u b f n).wait.length ≤ 1048576 := by
  unfold lst
  by_cases c : lcode u b f n = 0
  · rw [if_pos c]; exact (run_len u b f n).1
  · rw [if_neg c]; show (0 : Nat) ≤ _; omega
theorem lma_len (u b : Int) (f : Nat → Int) (n : Nat) : (lma u b f n).notes.length ≤ 1048576 := by
  unfold lma
  by_cases c : lcode u b f n = 0
  · rw [if_pos c]; exact (run_len u b f n).2
  · rw [if_neg c]; show (0 : Nat) ≤ _; omega
end Ln
end Go.Proofs.YtdlojhncbgfjbaaGreatDoor
namespace Go.Proofs.YtdlojhncbgfjbaaGreatDoor
open Go.RowKit Go.Deep

theorem lntab {w w' : World} (h : TabOk w) (hb : Below w.heap.size w w') : TabOk w' := Lib.tabBelow_of_tabIs h w' hb
theorem lown_bel {B n : Nat} {v : Value} {xs : List Value} {W W' : World} (h : W.ownsRow B 5 1 v n xs) (hb : Below W.heap.size W W') : W'.ownsRow B 5 1 v n xs := by
  refine ⟨h.1, ?_⟩
  rcases h.2 with h2 | ⟨g, cap, cur, e1, e2, e3, e4⟩
  · exact Or.inl h2
  · refine Or.inr ⟨g, cap, cur, e1, e2, ?_, e4⟩
    rw [hb.block g (by
      rcases Nat.lt_or_ge g W.heap.size with h | h
      · exact h
      · rw [Array.getElem?_eq_none h] at e3; cases e3)]
    exact e3
set_option maxRecDepth 100000 in
set_option maxHeartbeats 4000000 in
theorem frameOf_any (q v u : Int) (w : World) (ht : TabOk w) (h1 : -9223372036854775808 ≤ v) (h2 : v ≤ 9223372036854775807) :
    Calls Tryz.prog 98 #[.agg #[.int .i64 q, .int .i64 v], .int .i64 u] w fun e w' => e = .returned (.agg #[.int .i64 u, .int .i64 3, .int .i64 q, .string ⟨(Lib.itoa v).toArray⟩]) ∧ Below w.heap.size w w' := by
  obtain ⟨W, hW⟩ : ∃ W, W = (w.alloc (.cells #[.int .i64 q, .int .i64 v] 37)).alloc (.cells #[.int .i64 0, .int .i64 0, .int .i64 0, .string ⟨#[]⟩] 70) := ⟨_, rfl⟩
  have HB : Hid (Below w.heap.size w W) := by show Below _ _ _; rw [hW]; exact ((Below.refl _ _).alloc (Nat.le_refl _) _).alloc (by simp) _
  have HX : Hid (W.rowIs w.heap.size 37 2 (rowN [.int .i64 q, .int .i64 v])) := by show W.rowIs _ _ _ _; rw [hW]; exact nrow_below (rowN_alloc w _ _) (nbel_alloc _ _)
  have HY : Hid (W.rowIs (w.heap.size + 1) 70 4 (rowN [.int .i64 0, .int .i64 0, .int .i64 0, .string ⟨#[]⟩])) := by show W.rowIs _ _ _ _; rw [hW]; exact rowN_alloc' (by simp) _ _
  have HT := Lib.hid ht
  have HW := Lib.hid hW
  clear hW ht
  go_enter Tryz.func98, Tryz.ntmps98
  go_wp2_with fail
  rw [← HW.out]
  clear HW
  refine wp_region_held_drew (S := fun V => V.rowIs w.heap.size 37 2 (rowN [.int .i64 q, .int .i64 v]) ∧ (∃ l, l.length = 4 ∧ V.rowIs (w.heap.size + 1) 70 4 (rowN l)) ∧ Below w.heap.size w V) (by kernel_rfl) ⟨HX.out.of_block rfl, ⟨_, rfl, HY.out.of_block rfl⟩, HB.out.drew⟩ (fun hHeld => ?_)
  obtain ⟨Z, hZ⟩ : ∃ Z, Z = W.drew := ⟨_, rfl⟩
  have HYZ : Hid (Z.rowIs (w.heap.size + 1) 70 4 (rowN [.int .i64 0, .int .i64 0, .int .i64 0, .string ⟨#[]⟩])) := by show World.rowIs _ _ _ _ _; rw [hZ]; exact HY.out.of_block rfl
  rw [← hZ] at hHeld ⊢
  clear hZ HX HY HB
  refine take_do (i := 0) (v := (.int .i64 u)) rfl (by kernel_rfl) (by kernel_rfl) (by kernel_rfl) (fun _ _ _ h => h) (by rfl) ?_ (by assumption) ?_
  · intro w hSw
    go_simp
  simp only [Act.put, List.setIfInBounds_toArray, List.set_cons_zero, List.set_cons_succ]
  refine take_do (i := 1) (v := (.pointer (some ⟨w.heap.size, 0, none⟩))) rfl (by kernel_rfl) (by kernel_rfl) (by kernel_rfl) (fun _ _ _ h => h) (by rfl) ?_ (by assumption) ?_
  · intro w hSw
    go_simp
  simp only [Act.put, List.setIfInBounds_toArray, List.set_cons_zero, List.set_cons_succ]
  refine take_do (i := 2) (v := (.int .i64 q)) rfl (by kernel_rfl) (by kernel_rfl) (by kernel_rfl) (fun _ _ _ h => h) (by rfl) ?_ (by assumption) ?_
  · intro w hSw
    obtain ⟨⟨q0, q1⟩, _⟩ := rowN2 hSw.1
    go_simp
  simp only [Act.put, List.setIfInBounds_toArray, List.set_cons_zero, List.set_cons_succ]
  refine take_do (i := 3) (v := (.pointer (some ⟨w.heap.size, 1, none⟩))) rfl (by kernel_rfl) (by kernel_rfl) (by kernel_rfl) (fun _ _ _ h => h) (by rfl) ?_ (by assumption) ?_
  · intro w hSw
    go_simp
  simp only [Act.put, List.setIfInBounds_toArray, List.set_cons_zero, List.set_cons_succ]
  refine take_do (i := 4) (v := (.int .i64 v)) rfl (by kernel_rfl) (by kernel_rfl) (by kernel_rfl) (fun _ _ _ h => h) (by rfl) ?_ (by assumption) ?_
  · intro w hSw
    obtain ⟨⟨q0, q1⟩, _⟩ := rowN2 hSw.1
    go_simp
  simp only [Act.put, List.setIfInBounds_toArray, List.set_cons_zero, List.set_cons_succ]
  refine take_call (i := 5) rfl (by kernel_rfl) (fun K2 hK => ?_)
  go_simp
  refine (fmt_any v h1 h2 _ (lntab HT.out hHeld.2.2)).mono ?_
  rintro e Z2 ⟨rfl, hb⟩
  have HY2 := Lib.hid (nrow_below HYZ.out hb)
  have hq : (fun V => V.rowIs w.heap.size 37 2 (rowN [.int .i64 q, .int .i64 v]) ∧ (∃ l, l.length = 4 ∧ V.rowIs (w.heap.size + 1) 70 4 (rowN l)) ∧ Below w.heap.size w V) Z2 := ⟨nrow_below hHeld.1 hb, ⟨_, rfl, HY2.out⟩, hHeld.2.2.trans (hb.mono hHeld.2.2.size)⟩
  go_wp2_with fail
  refine hK.out _ _ hq (fun hHeld2 => ?_)
  clear hK hHeld hb hq HYZ
  have hHeld := hHeld2
  clear hHeld2
  refine take_do (i := 6) (v := (.agg #[.int .i64 u, .int .i64 3, .int .i64 q, .string ⟨(Lib.itoa v).toArray⟩])) rfl (by kernel_rfl) (by kernel_rfl) (by kernel_rfl) (fun _ _ _ h => h) (by rfl) ?_ (by assumption) ?_
  · intro w hSw
    go_simp
  simp only [Act.put, List.setIfInBounds_toArray, List.set_cons_zero, List.set_cons_succ]
  obtain ⟨⟨y0, y1, y2, y3⟩, g0, g1, g2, g3⟩ := rowN4 HY2.out
  have hl1 := HY2.out.lt
  have zr := Lib.hid (rowN_put (rowN_put (rowN_put (rowN_put HY2.out 0 (.int .i64 u) (by simp)) 1 (.int .i64 3) (by simp)) 2 (.int .i64 q) (by simp)) 3 (.string ⟨(Lib.itoa v).toArray⟩) (by simp))
  have zb := Lib.hid ((((hHeld.2.2.setCell (p := ⟨w.heap.size + 1, 0, none⟩) (by show w.heap.size ≤ w.heap.size + 1; omega) (.int .i64 u)).setCell (p := ⟨w.heap.size + 1, 1, none⟩) (by show w.heap.size ≤ w.heap.size + 1; omega) (.int .i64 3)).setCell (p := ⟨w.heap.size + 1, 2, none⟩) (by show w.heap.size ≤ w.heap.size + 1; omega) (.int .i64 q)).setCell (p := ⟨w.heap.size + 1, 3, none⟩) (by show w.heap.size ≤ w.heap.size + 1; omega) (.string ⟨(Lib.itoa v).toArray⟩))
  have zx := Lib.hid (nrow_set (nrow_set (nrow_set (nrow_set hHeld.1 (p := ⟨w.heap.size + 1, 0, none⟩) (by show w.heap.size ≠ w.heap.size + 1; omega) (.int .i64 u)) (p := ⟨w.heap.size + 1, 1, none⟩) (by show w.heap.size ≠ w.heap.size + 1; omega) (.int .i64 3)) (p := ⟨w.heap.size + 1, 2, none⟩) (by show w.heap.size ≠ w.heap.size + 1; omega) (.int .i64 q)) (p := ⟨w.heap.size + 1, 3, none⟩) (by show w.heap.size ≠ w.heap.size + 1; omega) (.string ⟨(Lib.itoa v).toArray⟩))
  refine take_call (i := 7) rfl (by kernel_rfl) (fun K2 hK => ?_)
  go_simp
  refine hK.out _ _ ⟨zx.out, ⟨_, rfl, zr.out⟩, zb.out⟩ (fun hHeld2 => ?_)
  clear hK hHeld hHeld2
  refine wpAnyH_done (by kernel_rfl) ?_ _
  go_wp2_with fail
  refine bodyPost_ret (v := .agg #[.int .i64 u, .int .i64 3, .int .i64 q, .string ⟨(Lib.itoa v).toArray⟩]) ?_ rfl ⟨rfl, zb.out⟩
  obtain ⟨⟨u0, u1, u2, u3⟩, _⟩ := rowN4 zr.out
  simp only [results, Tryz.results98]
  simp [go_sem, u0, u1, u2, u3]
set_option maxRecDepth 100000 in
set_option maxHeartbeats 4000000 in
theorem implSend_any (s : Ln.S) (a : Option Addr) (k : Nat) (w : World) (h : IsIn a (s.wait.length * 2) (Ln.fl s.wait) w) (hn : s.wait.length ≤ 1048576) (ht : TabOk w) :
    Calls Tryz.prog 81 #[stV s a k] w fun e w' => e = .returned (.string ⟨s.send.toArray⟩) ∧ Below w.heap.size w w' := by
  obtain ⟨i0, hi, hz0, hz1, hz2⟩ := info_parts info_by
  obtain ⟨W, hW⟩ : ∃ W, W = w.alloc (stO s a k) := ⟨_, rfl⟩
  have HB : Hid (Below w.heap.size w W) := by show Below _ _ _; rw [hW]; exact nbel_alloc _ _
  have HX : Hid (W.rowIs w.heap.size 28 7 (rowN (stL s a k))) := by show W.rowIs _ _ _ _; rw [hW]; exact rowN_alloc w (stL s a k) _
  have H := Lib.hid h
  have HN := Lib.hid hn
  have HT := Lib.hid ht
  have HW := Lib.hid hW
  clear hW h hn ht
  go_enter Tryz.func81, Tryz.ntmps81
  go_wp2_with fail
  rw [← HW.out]
  clear HW
  refine (implSRight_any s a k _ (H.out.below HB.out) (by have := HN.out; omega)).mono ?_
  rintro e w1 ⟨rfl, hb⟩
  replace HX := Lib.hid (nrow_below HX.out hb)
  replace HB : Hid (Below w.heap.size w w1) := HB.out.trans (hb.mono HB.out.size)
  clear hb
  obtain ⟨⟨x0, x1, x2, x3, x4, x5, x6⟩, _⟩ := rowN7 HX.out
  by_cases c1 : s.Right
  case neg =>
    rw [lB_ff c1]
    have HE : Hid (s.send = []) := Ln.S.send_no c1
    clear c1
    go_wp2_with fail
    go_ret
    exact ⟨by rw [HE.out]; rfl, HB.out⟩
  rw [lB_tt c1]
  have HE : Hid (s.send = Ln.texts s.unit s.wait) := Ln.S.send_yes c1
  have HF := Lib.hid c1.fine
  have h40 : s.wait.length ≤ 40 := c1.2.1
  clear c1
  obtain ⟨N, hN⟩ : ∃ N, N = s.wait.length := ⟨_, rfl⟩
  rw [← hN] at h40 x5
  have HNN := Lib.hid hN
  clear hN
  go_wp2_with fail
  clear x0 x1 x2 x3 x4 x5 x6
  go_loopw [3, 5, 12] (fun dv _ iv wr => ∃ (i : Nat) (l : List UInt8) (da : Option Addr) (dn dc : Nat), i ≤ N ∧ iv = .int .i64 i ∧ dv = .slice da dn dc ∧ Hid (dn = l.length) ∧ Hid (wr.ownsRow (w.heap.size + 1) 5 1 (.slice da dn dc) l.length (l.map u8c)) ∧ Hid (l = Ln.texts s.unit (s.wait.take i)) ∧ Hid (l.length ≤ 16 * i) ∧ Hid (wr.rowIs w.heap.size 28 7 (rowN (stL s a k))) ∧ Hid (Below w.heap.size w wr)) (fun _ _ iv _ => N - (intOf iv).toNat)
  case atStart => exact ⟨0, [], none, 0, 0, Nat.zero_le _, rfl, rfl, rfl, ⟨rfl, Or.inl ⟨rfl, rfl⟩⟩, rfl, Nat.le_refl _, HX, HB⟩
  case round =>
    obtain ⟨i, l, da, dn, dc, hiN, rfl, rfl, hdn, hO, hL, hLl, hX, hB⟩ := hrel
    clear HX HB
    by_cases hlt : i < N
    · have hltz : (i : Int) < (N : Int) := by omega
      have HIL : Hid (i < s.wait.length) := by show _ < _; rw [← HNN.out]; exact hlt
      obtain ⟨b, o, ea, c0, c1⟩ := (H.out.below hB.out).at2 HIL.out
      have hea := Lib.hid ea
      obtain ⟨x, hx⟩ : ∃ x, x = Ln.fl s.wait (i * 2) := ⟨_, rfl⟩
      obtain ⟨y, hy⟩ : ∃ y, y = Ln.fl s.wait (i * 2 + 1) := ⟨_, rfl⟩
      rw [← hx] at c0
      rw [← hy] at c1
      have HFN : Hid (Ln.Fine s.unit (x, y)) := by show Ln.Fine _ _; rw [hx, hy]; exact HF.out _ (Ln.at_mem HIL.out)
      have HTK : Hid (s.wait.take (i + 1) = s.wait.take i ++ [(x, y)]) := by show _ = _; rw [hx, hy]; exact Ln.take_snoc HIL.out
      clear hx hy
      subst ea
      obtain ⟨V, hV⟩ : ∃ V, V = wr.alloc (.cells #[.int .i64 x, .int .i64 y] 37) := ⟨_, rfl⟩
      have hbV : Below wr.heap.size wr V := by rw [hV]; exact nbel_alloc _ _
      have HXV := Lib.hid (nrow_below hX.out hbV)
      have HBV : Hid (Below w.heap.size w V) := hB.out.trans (hbV.mono hB.out.size)
      have HOV : Hid (V.ownsRow (w.heap.size + 1) 5 1 (.slice da dn dc) l.length (l.map u8c)) := by show World.ownsRow _ _ _ _ _ _ _; rw [hV]; exact hO.out.alloc _
      obtain ⟨⟨r0, r1, r2, r3, r4, r5, r6⟩, _⟩ := rowN7 HXV.out
      have HV := Lib.hid hV
      rw [hV] at r0
      clear hV hbV hX hB hO r1 r2 r3 r4 r5 r6
      go_wp2_with fail
      rw [← HV.out]
      clear HV r0 c0 c1
      refine (frameOf_any x y s.unit _ (lntab HT.out HBV.out) (by have := HFN.out.2.2.1; simp only at this; omega) (by have := HFN.out.2.2.2; simp only at this; omega)).mono ?_
      rintro e w2 ⟨rfl, hb2⟩
      have HX2 := Lib.hid (nrow_below HXV.out hb2)
      have HB2 : Hid (Below w.heap.size w w2) := HBV.out.trans (hb2.mono HBV.out.size)
      have HO2 : Hid (w2.ownsRow (w.heap.size + 1) 5 1 (.slice da dn dc) l.length (l.map u8c)) := lown_bel HOV.out hb2
      clear hb2 HXV HBV HOV
      go_wp2_with fail
      refine (implBytesOf s.unit 3 x ⟨(Lib.itoa y).toArray⟩ _ (by have := HFN.out.right; simpa [ByteArray.size] using this)).mono ?_
      rintro e w3 ⟨v3, rfl, ho3, hb3⟩
      obtain ⟨T3, hT3⟩ : ∃ T3, T3 = Ln.frm s.unit (x, y) := ⟨_, rfl⟩
      have ho4 : OwnBy w2.heap.size v3 T3 w3 := by rw [hT3]; exact ho3
      obtain ⟨g3, cp3, rfl, hg3, hcp3, hcell3⟩ := ho4.form
      have h16 : T3.length ≤ 16 := by rw [hT3]; exact Ln.frm_len HFN.out
      have hX3s := HX2.out.lt
      have HX3 := Lib.hid (nrow_below HX2.out hb3)
      have HB3 : Hid (Below w.heap.size w w3) := HB2.out.trans (hb3.mono HB2.out.size)
      have HO3 : Hid (w3.ownsRow (w.heap.size + 1) 5 1 (.slice da dn dc) l.length (l.map u8c)) := lown_bel HO2.out hb3
      have HC3 : Hid (∀ j u, (T3.map u8c)[j]? = some u → w3.cell? ((⟨g3, 0, none⟩ : Addr).add j) = some u) := fun j u hj => by
        have hjl : j < T3.length := by have := (List.getElem?_eq_some_iff.1 hj).1; simpa using this
        rw [List.getElem?_map, List.getElem?_eq_getElem hjl] at hj
        simp only [Option.map_some, Option.some.injEq] at hj
        subst hj
        rw [Addr.add_lit, Nat.zero_add]
        exact hcell3 j hjl
      have H1C : Hid (∀ u ∈ T3.map u8c, u.oneCell' = true) := fun u hu => by obtain ⟨c, _, rfl⟩ := List.mem_map.1 hu; rfl
      have HT3 := Lib.hid hT3
      have hll := hLl.out
      have hsz3 : w.heap.size + 1 ≤ w3.heap.size := by have := HX3.out.lt; omega
      obtain ⟨M3, hM3⟩ : ∃ M3, M3 = T3.length := ⟨_, rfl⟩
      have HM3 := Lib.hid hM3
      rw [← hM3] at h16 ⊢
      clear hb3 ho3 ho4 hcell3 hT3 hcp3 hg3 HX2 HB2 HO2 hX3s hM3
      go_wp2_with (at_builtin; refine wpList_append_own _ rfl _ _ 22 rfl (w.heap.size + 1) 5 i0 (.int .u8 0) 1 1 Tryz.underlying22 hi hz0 hz1 hz2 rfl (by decide) _ _ _ rfl HO3.out ⟨g3, 0, none⟩ M3 cp3 (T3.map u8c) rfl ?c1 ?c2 ?c3 ?c4 ?c5 ?c6 ?_)
      case c1 => rw [List.length_map, HM3.out]; omega
      case c2 => exact HC3.out
      case c3 => exact H1C.out
      case c4 => unfold maxLen; omega
      case c5 => omega
      case c6 => exact hsz3
      intro v4 w4 hown hgrow hnil
      have HB4 : Hid (Below w.heap.size w w4) := HB3.out.grown hgrow (by omega) (fun q hq => by have := (HO3.out.lt q hq).1; omega)
      have HX4 : Hid (w4.rowIs w.heap.size 28 7 (rowN (stL s (some ⟨b, o, none⟩) k))) := HX3.out.of_block (hgrow.block _ HX3.out.lt (fun e => by have := (HO3.out.lt _ e.symm).1; omega))
      have HO4 : Hid (w4.ownsRow (w.heap.size + 1) 5 1 v4 (l ++ T3).length ((l ++ T3).map u8c)) := by show World.ownsRow _ _ _ _ _ _ _; rw [List.length_append, List.map_append, ← HM3.out]; exact hown
      have HL4 : Hid (l ++ T3 = Ln.texts s.unit (s.wait.take (i + 1))) := by show _ = _; rw [HTK.out, Ln.texts_snoc, ← hL.out, HT3.out]
      have HLL4 : Hid ((l ++ T3).length ≤ 16 * (i + 1)) := by show _ ≤ _; rw [List.length_append, ← HM3.out]; omega
      clear hown hgrow hnil HB3 HX3 HO3 HC3 H1C
      obtain ⟨L4, hL4⟩ : ∃ L4, L4 = l ++ T3 := ⟨_, rfl⟩
      rw [← hL4] at HO4 HL4 HLL4
      clear hL4
      obtain ⟨da4, dn4, dc4, rfl, hdn4⟩ : ∃ da4 dn4 dc4, v4 = .slice da4 dn4 dc4 ∧ Hid (dn4 = L4.length) := by
        rcases HO4.out.2 with ⟨h, h2⟩ | ⟨g, cap, cur, h, _⟩
        · exact ⟨none, 0, 0, h, h2.symm⟩
        · exact ⟨_, _, _, h, rfl⟩
      go_wp2_with fail
      go_roundw
      case rel => exact ⟨i + 1, L4, da4, dn4, dc4, by omega, by go_num, rfl, hdn4, HO4, HL4, HLL4, HX4, HB4⟩
      case measure => simp [intOf]; omega
    · obtain rfl : i = N := by omega
      have HLE : Hid (s.send = l) := by show _ = _; rw [HE.out, hL.out, HNN.out, List.take_length]
      rcases hO.out.2 with ⟨h, h2⟩ | ⟨g, cap, cur, h, hg1, hg2, hg3, hg4, hg5, hg6⟩
      · cases h
        have hnil : l = [] := List.eq_nil_of_length_eq_zero h2
        subst hnil
        have hcv : ∀ W, (convert 22 9 (.slice none 0 0)).run Tryz.prog W = .ok (.string ⟨#[]⟩) W := fun W => by
          rw [run_convert_bytes_string W 22 9 5 none 0 0 Tryz.underlying22 Tryz.underlying5 Tryz.underlying9]
          simp [Conv.bytesToString]
          rfl
        go_wp2_with fail
        go_ret
        exact ⟨by rw [HLE.out]; rfl, hB.out⟩
      · cases h
        have hcv := run_convert_bytes_back (P := Tryz.prog) wr 22 9 5 ⟨g, 0, none⟩ dc l Tryz.underlying22 Tryz.underlying5 Tryz.underlying9 (fun j hj => by
          have c := hO.out.cells (g := g) rfl j (u8c l[j]) (by rw [List.getElem?_map, List.getElem?_eq_getElem hj]; rfl)
          exact c)
        clear hg2 hg3 hg4 hg5 hg6
        go_wp2_with fail
        go_ret
        exact ⟨by rw [HLE.out]; rfl, hB.out⟩
set_option maxRecDepth 100000 in
set_option maxHeartbeats 8000000 in
theorem specSend_any (s : Ln.S) (a : Option Addr) (k : Nat) (w : World) (h : IsIn a (s.wait.length * 2) (Ln.fl s.wait) w) (hn : s.wait.length ≤ 1048576) :
    Calls Tryz.prog 14 #[stV s a k] w fun e w' => e = .returned (.string ⟨s.send.toArray⟩) ∧ Below w.heap.size w w' := by
  obtain ⟨W, hW⟩ : ∃ W, W = w.alloc (stO s a k) := ⟨_, rfl⟩
  have HB : Hid (Below w.heap.size w W) := by show Below _ _ _; rw [hW]; exact nbel_alloc _ _
  have HX : Hid (W.rowIs w.heap.size 28 7 (rowN (stL s a k))) := by show W.rowIs _ _ _ _; rw [hW]; exact rowN_alloc w (stL s a k) _
  have H := Lib.hid h
  have HN := Lib.hid hn
  have HW := Lib.hid hW
  clear hW h hn
  go_enter Tryz.func14, Tryz.ntmps14
  go_wp2_with fail
  rw [← HW.out]
  clear HW
  refine (specSRight_any s a k _ (H.out.below HB.out) (by have := HN.out; omega)).mono ?_
  rintro e w1 ⟨rfl, hbg⟩
  have hb := hbg.bel
  replace HX := Lib.hid (nrow_below HX.out hb)
  replace HB : Hid (Below w.heap.size w w1) := HB.out.trans (hb.mono HB.out.size)
  clear hb hbg
  by_cases c1 : s.Right
  case neg =>
    rw [lB_ff c1]
    have HE : Hid (s.send = []) := Ln.S.send_no c1
    clear c1
    go_wp2_with fail
    go_ret
    exact ⟨by rw [HE.out]; rfl, HB.out⟩
  rw [lB_tt c1]
  have HE : Hid (s.send = Ln.texts s.unit s.wait) := Ln.S.send_yes c1
  have HF := Lib.hid c1.fine
  have h40 : s.wait.length ≤ 40 := c1.2.1
  clear c1
  obtain ⟨N, hN⟩ : ∃ N, N = s.wait.length := ⟨_, rfl⟩
  rw [← hN] at h40
  have HNN := Lib.hid hN
  clear hN
  go_wp2_with fail
  go_loopw [3, 4] (fun tv iv wr => ∃ (i : Nat) (l : List UInt8), i ≤ N ∧ iv = .int .i64 i ∧ tv = .string ⟨l.toArray⟩ ∧ Hid (l = Ln.texts s.unit (s.wait.take i)) ∧ Hid (l.length ≤ 16 * i) ∧ Hid (wr.rowIs w.heap.size 28 7 (rowN (stL s a k))) ∧ Hid (Below w.heap.size w wr)) (fun _ iv _ => N - (intOf iv).toNat)
  case atStart => exact ⟨0, [], Nat.zero_le _, rfl, rfl, rfl, Nat.le_refl _, HX, HB⟩
  case round =>
    obtain ⟨i, l, hiN, rfl, rfl, hL, hLl, hX, hB⟩ := hrel
    clear HX HB
    obtain ⟨⟨x0, x1, x2, x3, x4, x5, x6⟩, _⟩ := rowN7 hX.out
    rw [← HNN.out] at x5
    by_cases hlt : i < N
    · have hltz : (i : Int) < (N : Int) := by omega
      have HIL : Hid (i < s.wait.length) := by show _ < _; rw [← HNN.out]; exact hlt
      obtain ⟨b, o, ea, c0, c1⟩ := (H.out.below hB.out).at2 HIL.out
      obtain ⟨x, hx⟩ : ∃ x, x = Ln.fl s.wait (i * 2) := ⟨_, rfl⟩
      obtain ⟨y, hy⟩ : ∃ y, y = Ln.fl s.wait (i * 2 + 1) := ⟨_, rfl⟩
      rw [← hx] at c0
      rw [← hy] at c1
      have HFN : Hid (Ln.Fine s.unit (x, y)) := by show Ln.Fine _ _; rw [hx, hy]; exact HF.out _ (Ln.at_mem HIL.out)
      have HTK : Hid (s.wait.take (i + 1) = s.wait.take i ++ [(x, y)]) := by show _ = _; rw [hx, hy]; exact Ln.take_snoc HIL.out
      clear hx hy
      subst ea
      obtain ⟨T3, hT3⟩ : ∃ T3, T3 = Ln.frm s.unit (x, y) := ⟨_, rfl⟩
      have h16 : T3.length ≤ 16 := by rw [hT3]; exact Ln.frm_len HFN.out
      have hll := hLl.out
      have hl640 : l.length ≤ 640 := by omega
      have HT3 := Lib.hid hT3
      have HS0 : Hid ((fun V => V.rowIs w.heap.size 28 7 (rowN (stL s (some ⟨b, o, none⟩) k)) ∧ V.cell? ⟨b, o + i * 2, none⟩ = some (.int .i64 x) ∧ V.cell? ⟨b, o + i * 2 + 1, none⟩ = some (.int .i64 y) ∧ Below w.heap.size w V) wr.drew) := ⟨hX.out.of_block rfl, c0, c1, hB.out.drew⟩
      clear hT3 x0 x1 x2 x3 x4 x6 c0 c1 hX hB
      go_wp2_with fail
      refine wp_region_held_drew (S := fun V => V.rowIs w.heap.size 28 7 (rowN (stL s (some ⟨b, o, none⟩) k)) ∧ V.cell? ⟨b, o + i * 2, none⟩ = some (.int .i64 x) ∧ V.cell? ⟨b, o + i * 2 + 1, none⟩ = some (.int .i64 y) ∧ Below w.heap.size w V) (by kernel_rfl) HS0.out (fun hHeld => ?_)
      obtain ⟨Z, hZ⟩ : ∃ Z, Z = wr.drew := ⟨_, rfl⟩
      rw [← hZ] at hHeld ⊢
      clear hZ HS0 x5
      refine take_do (i := 0) (v := (.string ⟨l.toArray⟩)) rfl (by kernel_rfl) (by kernel_rfl) (by kernel_rfl) (fun _ _ _ h => h) (by rfl) ?_ (by assumption) ?_
      · intro w hSw
        go_simp
      simp only [Act.put, List.setIfInBounds_toArray, List.set_cons_zero, List.set_cons_succ]
      refine take_do (i := 1) (v := (.pointer (some ⟨w.heap.size, 0, none⟩))) rfl (by kernel_rfl) (by kernel_rfl) (by kernel_rfl) (fun _ _ _ h => h) (by rfl) ?_ (by assumption) ?_
      · intro w hSw
        go_simp
      simp only [Act.put, List.setIfInBounds_toArray, List.set_cons_zero, List.set_cons_succ]
      refine take_do (i := 2) (v := (.int .i64 s.unit)) rfl (by kernel_rfl) (by kernel_rfl) (by kernel_rfl) (fun _ _ _ h => h) (by rfl) ?_ (by assumption) ?_
      · intro w hSw
        obtain ⟨⟨r0, r1, r2, r3, r4, r5, r6⟩, _⟩ := rowN7 hSw.1
        rw [← HNN.out] at r5
        obtain ⟨_, q0, q1, _⟩ := hSw
        go_simp
      simp only [Act.put, List.setIfInBounds_toArray, List.set_cons_zero, List.set_cons_succ]
      refine take_do (i := 3) (v := (.pointer (some ⟨w.heap.size, 5, none⟩))) rfl (by kernel_rfl) (by kernel_rfl) (by kernel_rfl) (fun _ _ _ h => h) (by rfl) ?_ (by assumption) ?_
      · intro w hSw
        go_simp
      simp only [Act.put, List.setIfInBounds_toArray, List.set_cons_zero, List.set_cons_succ]
      refine take_do (i := 4) (v := (.slice (some ⟨b, o, none⟩) N k)) rfl (by kernel_rfl) (by kernel_rfl) (by kernel_rfl) (fun _ _ _ h => h) (by rfl) ?_ (by assumption) ?_
      · intro w hSw
        obtain ⟨⟨r0, r1, r2, r3, r4, r5, r6⟩, _⟩ := rowN7 hSw.1
        rw [← HNN.out] at r5
        obtain ⟨_, q0, q1, _⟩ := hSw
        go_simp
      simp only [Act.put, List.setIfInBounds_toArray, List.set_cons_zero, List.set_cons_succ]
      refine take_do (i := 5) (v := (.int .i64 i)) rfl (by kernel_rfl) (by kernel_rfl) (by kernel_rfl) (fun _ _ _ h => h) (by rfl) ?_ (by assumption) ?_
      · intro w hSw
        go_simp
      simp only [Act.put, List.setIfInBounds_toArray, List.set_cons_zero, List.set_cons_succ]
      refine take_do (i := 6) (v := (.pointer (some ⟨b, o + i * 2, none⟩))) rfl (by kernel_rfl) (by kernel_rfl) (by kernel_rfl) (fun _ _ _ h => h) (by rfl) ?_ (by assumption) ?_
      · intro w hSw
        go_simp
      simp only [Act.put, List.setIfInBounds_toArray, List.set_cons_zero, List.set_cons_succ]
      refine take_do (i := 7) (v := (.pointer (some ⟨b, o + i * 2, none⟩))) rfl (by kernel_rfl) (by kernel_rfl) (by kernel_rfl) (fun _ _ _ h => h) (by rfl) ?_ (by assumption) ?_
      · intro w hSw
        go_simp
      simp only [Act.put, List.setIfInBounds_toArray, List.set_cons_zero, List.set_cons_succ]
      refine take_do (i := 8) (v := (.int .i64 x)) rfl (by kernel_rfl) (by kernel_rfl) (by kernel_rfl) (fun _ _ _ h => h) (by rfl) ?_ (by assumption) ?_
      · intro w hSw
        obtain ⟨⟨r0, r1, r2, r3, r4, r5, r6⟩, _⟩ := rowN7 hSw.1
        rw [← HNN.out] at r5
        obtain ⟨_, q0, q1, _⟩ := hSw
        go_simp
      simp only [Act.put, List.setIfInBounds_toArray, List.set_cons_zero, List.set_cons_succ]
      refine take_do (i := 9) (v := (.pointer (some ⟨w.heap.size, 5, none⟩))) rfl (by kernel_rfl) (by kernel_rfl) (by kernel_rfl) (fun _ _ _ h => h) (by rfl) ?_ (by assumption) ?_
      · intro w hSw
        go_simp
      simp only [Act.put, List.setIfInBounds_toArray, List.set_cons_zero, List.set_cons_succ]
      refine take_do (i := 10) (v := (.slice (some ⟨b, o, none⟩) N k)) rfl (by kernel_rfl) (by kernel_rfl) (by kernel_rfl) (fun _ _ _ h => h) (by rfl) ?_ (by assumption) ?_
      · intro w hSw
        obtain ⟨⟨r0, r1, r2, r3, r4, r5, r6⟩, _⟩ := rowN7 hSw.1
        rw [← HNN.out] at r5
        obtain ⟨_, q0, q1, _⟩ := hSw
        go_simp
      simp only [Act.put, List.setIfInBounds_toArray, List.set_cons_zero, List.set_cons_succ]
      refine take_do (i := 11) (v := (.int .i64 i)) rfl (by kernel_rfl) (by kernel_rfl) (by kernel_rfl) (fun _ _ _ h => h) (by rfl) ?_ (by assumption) ?_
      · intro w hSw
        go_simp
      simp only [Act.put, List.setIfInBounds_toArray, List.set_cons_zero, List.set_cons_succ]
      refine take_do (i := 12) (v := (.pointer (some ⟨b, o + i * 2, none⟩))) rfl (by kernel_rfl) (by kernel_rfl) (by kernel_rfl) (fun _ _ _ h => h) (by rfl) ?_ (by assumption) ?_
      · intro w hSw
        go_simp
      simp only [Act.put, List.setIfInBounds_toArray, List.set_cons_zero, List.set_cons_succ]
      refine take_do (i := 13) (v := (.pointer (some ⟨b, o + i * 2 + 1, none⟩))) rfl (by kernel_rfl) (by kernel_rfl) (by kernel_rfl) (fun _ _ _ h => h) (by rfl) ?_ (by assumption) ?_
      · intro w hSw
        go_simp
      simp only [Act.put, List.setIfInBounds_toArray, List.set_cons_zero, List.set_cons_succ]
      refine take_do (i := 14) (v := (.int .i64 y)) rfl (by kernel_rfl) (by kernel_rfl) (by kernel_rfl) (fun _ _ _ h => h) (by rfl) ?_ (by assumption) ?_
      · intro w hSw
        obtain ⟨⟨r0, r1, r2, r3, r4, r5, r6⟩, _⟩ := rowN7 hSw.1
        rw [← HNN.out] at r5
        obtain ⟨_, q0, q1, _⟩ := hSw
        go_simp
      simp only [Act.put, List.setIfInBounds_toArray, List.set_cons_zero, List.set_cons_succ]
      refine take_call (i := 15) rfl (by kernel_rfl) (fun K2 hK => ?_)
      go_simp
      refine (specDec_wide y _ (by have := HFN.out.2.2.1; simp only at this; omega) (by have := HFN.out.2.2.2; simp only at this; omega)).mono ?_
      rintro e Z2 ⟨rfl, hb⟩
      go_wp2_with fail
      refine hK.out _ _ ⟨nrow_below hHeld.1 hb, (hb.cell (World.block_lt_of_cell? _ _ hHeld.2.1)).trans hHeld.2.1, (hb.cell (World.block_lt_of_cell? _ _ hHeld.2.2.1)).trans hHeld.2.2.1, hHeld.2.2.2.trans (hb.mono hHeld.2.2.2.size)⟩ (fun hHeld2 => ?_)
      clear hK hHeld hb
      have hHeld := hHeld2
      clear hHeld2
      refine take_do (i := 16) (v := (.agg #[.int .i64 s.unit, .int .i64 3, .int .i64 x, .string ⟨(Lib.itoa y).toArray⟩])) rfl (by kernel_rfl) (by kernel_rfl) (by kernel_rfl) (fun _ _ _ h => h) (by rfl) ?_ (by assumption) ?_
      · intro w hSw
        go_simp
      simp only [Act.put, List.setIfInBounds_toArray, List.set_cons_zero, List.set_cons_succ]
      refine take_call (i := 17) rfl (by kernel_rfl) (fun K2 hK => ?_)
      go_simp
      refine (specFrText_yes s.unit 3 x ⟨(Lib.itoa y).toArray⟩ _ (by have := HFN.out.right; simpa [ByteArray.size] using this)).mono ?_
      rintro e Z3 ⟨rfl, hb⟩
      have hT4 : Fr.text s.unit 3 x (⟨(Lib.itoa y).toArray⟩ : ByteArray).data.toList = T3 := HT3.out.symm
      rw [hT4]
      clear hT4
      go_wp2_with fail
      refine hK.out _ _ ⟨nrow_below hHeld.1 hb, (hb.cell (World.block_lt_of_cell? _ _ hHeld.2.1)).trans hHeld.2.1, (hb.cell (World.block_lt_of_cell? _ _ hHeld.2.2.1)).trans hHeld.2.2.1, hHeld.2.2.2.trans (hb.mono hHeld.2.2.2.size)⟩ (fun hHeld2 => ?_)
      clear hK hHeld hb
      have hHeld := hHeld2
      clear hHeld2
      refine take_do (i := 18) (v := (.string ⟨(l ++ T3).toArray⟩)) rfl (by kernel_rfl) (by kernel_rfl) (by kernel_rfl) (fun _ _ _ h => h) (by rfl) ?_ (by assumption) ?_
      · intro w hSw
        have hcat : (⟨l.toArray⟩ : ByteArray) ++ ⟨T3.toArray⟩ = ⟨(l ++ T3).toArray⟩ := by rw [M.ba_append]; simp
        have hlt3 : l.length + T3.length ≤ 9223372036854775807 := by omega
        go_simp
      simp only [Act.put, List.setIfInBounds_toArray, List.set_cons_zero, List.set_cons_succ]
      refine take_do (i := 19) (v := (.string ⟨(l ++ T3).toArray⟩)) rfl (by kernel_rfl) (by kernel_rfl) (by kernel_rfl) (fun _ _ _ h => h) (by rfl) ?_ (by assumption) ?_
      · intro w hSw
        go_simp
      simp only [Act.put, List.setIfInBounds_toArray, List.set_cons_zero, List.set_cons_succ]
      refine wpAnyH_done (by kernel_rfl) ?_ _
      have HX4 := Lib.hid hHeld.1
      have HB4 := Lib.hid hHeld.2.2.2
      have HL4 : Hid (l ++ T3 = Ln.texts s.unit (s.wait.take (i + 1))) := by show _ = _; rw [HTK.out, Ln.texts_snoc, ← hL.out, HT3.out]
      have HLL4 : Hid ((l ++ T3).length ≤ 16 * (i + 1)) := by show _ ≤ _; rw [List.length_append]; omega
      obtain ⟨L4, hL4⟩ : ∃ L4, L4 = l ++ T3 := ⟨_, rfl⟩
      rw [← hL4] at HL4 HLL4 ⊢
      clear hL4 hHeld
      go_wp2_with fail
      go_roundw
      case rel => exact ⟨i + 1, L4, by omega, by go_num, rfl, HL4, HLL4, HX4, HB4⟩
      case measure => simp [intOf]; omega
    · obtain rfl : i = N := by omega
      have HLE : Hid (s.send = l) := by show _ = _; rw [HE.out, hL.out, HNN.out, List.take_length]
      go_wp2_with fail
      go_ret
      exact ⟨by rw [HLE.out]; rfl, hB.out⟩
end Go.Proofs.YtdlojhncbgfjbaaGreatDoor
namespace Go.Proofs.YtdlojhncbgfjbaaGreatDoor
open Go.RowKit Go.Deep

namespace Ln
theorem left_nil (q : Int) : left q [] = [] := rfl
theorem left_app (q : Int) (l m : List Nt) : left q (l ++ m) = left q l ++ left q m := by simp [left]
theorem left_all {q : Int} {l : List Nt} (h : ∀ i, i < l.length → q < fl l (i * 2)) : left q l = l := by
  unfold left
  rw [List.filter_eq_self]
  intro x hx
  obtain ⟨i, hi, e⟩ := List.mem_iff_getElem.1 hx
  have := h i hi
  rw [fl_even, List.getD_eq_getElem?_getD, List.getElem?_eq_getElem hi] at this
  simp at this
  rw [e] at this
  simpa using this
theorem take_fl {l : List Nt} {i j : Nat} (hi : i < j * 2) (_hj : j ≤ l.length) : fl (l.take j) i = fl l i := by
  have e : (l.take j).getD (i / 2) (0, 0) = l.getD (i / 2) (0, 0) := by
    rw [List.getD_eq_getElem?_getD, List.getD_eq_getElem?_getD, List.getElem?_take_of_lt (by omega)]
  unfold fl; rw [e]
theorem left_take {q : Int} {l : List Nt} {j : Nat} (hj : j < l.length) : left q (l.take (j + 1)) = left q (l.take j) ++ (if q < fl l (j * 2) then [(fl l (j * 2), fl l (j * 2 + 1))] else []) := by
  rw [List.take_add_one, left_app, List.getElem?_eq_getElem hj]
  congr 1
  rw [fl_even, fl_odd, List.getD_eq_getElem?_getD, List.getElem?_eq_getElem hj]
  simp only [Option.toList_some, Option.getD_some, left, List.filter_cons, List.filter_nil]
  by_cases c : q < l[j].1 <;> simp [c]
end Ln
/-- The closure that tells which notes were heard. -/
abbrev hdF (sb : Nat) : Value := .func (.func 102) #[] #[.pointer (some ⟨sb, 0, none⟩)]
set_option maxRecDepth 100000 in
theorem heardF_any (q x y : Int) (sb : Nat) (w : World) (h : w.cell? ⟨sb, 0, none⟩ = some (.int .i64 q)) :
    Calls Tryz.prog 102 #[.agg #[.int .i64 x, .int .i64 y], .pointer (some ⟨sb, 0, none⟩)] w fun e w' => e = .returned (.bool (decide (x ≤ q))) ∧ Below w.heap.size w w' := by
  have hl := World.block_lt_of_cell? _ _ h
  have h2 : (w.alloc (.cells #[.int .i64 x, .int .i64 y] 37)).cell? ⟨sb, 0, none⟩ = some (.int .i64 q) := ((nbel_alloc w _).cell hl).trans h
  go_enter Tryz.func102, Tryz.ntmps102
  go_wp2_with fail
  go_ret
  exact ⟨rfl, nbel_alloc _ _⟩
def IxEnd (q : Int) (n : Nat) (f : Nat → Int) (z : Int) : Prop := (z = -1 ∧ ∀ i, i < n → q < f (i * 2)) ∨ ∃ i : Nat, z = i ∧ i < n ∧ f (i * 2) ≤ q ∧ ∀ k, k < i → q < f (k * 2)
set_option maxRecDepth 100000 in
set_option maxHeartbeats 2000000 in
theorem lnidx_any (a : Option Addr) (n c sb : Nat) (f : Nat → Int) (q : Int) (w : World) (h : IsIn a (n * 2) f w) (hq : w.cell? ⟨sb, 0, none⟩ = some (.int .i64 q)) (hn : n ≤ 1048576) :
    Calls Tryz.prog 110 #[.slice a n c, hdF sb] w fun e w' => (∃ z : Int, e = .returned (.int .i64 z) ∧ IxEnd q n f z) ∧ Below w.heap.size w w' := by
  have H := Lib.hid h
  have HQ := Lib.hid hq
  clear h hq
  go_enter Tryz.func110, Tryz.ntmps110
  go_wp2_with fail
  go_loopw [5, 8] (fun _ iv wr => ∃ (i : Nat), i ≤ n ∧ iv = .int .i64 i ∧ Hid (Below w.heap.size w wr) ∧ Hid (∀ j, j < i → q < f (j * 2))) (fun _ iv _ => n - (intOf iv).toNat)
  case atStart => exact ⟨0, Nat.zero_le _, rfl, Below.refl _ _, fun j hj => absurd hj (Nat.not_lt_zero _)⟩
  case round =>
    obtain ⟨i, hi, rfl, hB, hP⟩ := hrel
    by_cases hlt : i < n
    · have hltz : (i : Int) < (n : Int) := by omega
      obtain ⟨b, o, e, c0, c1⟩ := (H.out.below hB.out).at2 hlt
      subst e
      have cq := Lib.hid ((hB.out.cell (World.block_lt_of_cell? _ _ HQ.out)).trans HQ.out)
      go_wp2_with fail
      refine (heardF_any q _ _ sb _ cq.out).mono ?_
      rintro e w1 ⟨rfl, hb⟩
      have HB1 : Hid (Below w.heap.size w w1) := hB.out.trans (hb.mono hB.out.size)
      clear hb c0 c1 cq
      by_cases c : f (i * 2) ≤ q
      · rw [decide_eq_true c]
        have HC : Hid (IxEnd q n f (i : Int)) := Or.inr ⟨i, rfl, hlt, c, hP.out⟩
        clear c
        go_wp2_with fail
        go_ret
        exact ⟨⟨_, rfl, HC.out⟩, HB1.out⟩
      · rw [decide_eq_false c]
        have HC : Hid (q < f (i * 2)) := by show q < _; omega
        clear c
        go_wp2_with fail
        go_roundw
        case rel => exact ⟨i + 1, by omega, by go_num, HB1, fun j hj => by
          by_cases e : j = i
          · subst e; exact HC.out
          · exact hP.out j (by omega)⟩
        case measure => simp [intOf]; omega
    · obtain rfl : i = n := by omega
      go_wp2_with fail
      go_ret
      exact ⟨⟨_, rfl, Or.inl ⟨rfl, hP.out⟩⟩, hB.out⟩
theorem lnzero_note : ∀ w, (zeroValue 37).run Tryz.prog w = .ok (.agg #[.int .i64 0, .int .i64 0]) w := by
  intro w
  have h : (Tryz.prog.info? 37).map (·.zero) = some (some (.agg #[.int .i64 0, .int .i64 0])) := by kernel_rfl
  cases hq : Tryz.prog.info? 37 with
  | none => simp [hq] at h
  | some i =>
    have hi : i.zero = some (.agg #[.int .i64 0, .int .i64 0]) := by simpa [hq] using h
    simp [zeroValue, typeInfo, hq, hi]
theorem lnclear {g o n c M : Nat} {F : Nat → Value} {W : World} (h : W.rowIs g 37 M F) (hn : 1 ≤ n) (hf : o + n * 2 ≤ M) (ty : TypeId) :
    ∃ W', (Builtin.clear_ #[26] ty #[.slice (some ⟨g, o, none⟩) n c]).run Tryz.prog W = .ok (.tuple #[]) W' ∧ (∃ F', W'.rowIs g 37 M F' ∧ ∀ j, j < o → F' j = F j) ∧ Only g W W' := by
  obtain ⟨cur, hg, hsz, hcur⟩ := h
  obtain ⟨zs, hzs⟩ : ∃ zs : List Value, zs = List.replicate (n * 2) (.int .i64 0) := ⟨_, rfl⟩
  have hzl : zs.length = n * 2 := by rw [hzs]; simp
  have hzc : (Builtin.zeroCells #[.int .i64 0, .int .i64 0] n).toList = zs := by
    rw [hzs]
    apply List.ext_getElem
    · simp [Builtin.zeroCells]
    · intro i h1 h2
      simp only [Builtin.zeroCells, Array.getElem_toList, Array.getElem_map, Array.getElem_range, List.getElem_replicate]
      have h5 : i % 2 = 0 ∨ i % 2 = 1 := by omega
      rcases h5 with k | k <;> simp [k]
  have hst := run_storeCells_at Tryz.prog g o 37 zs 0 cur W hg (by rw [hzl]; omega) (by
    intro v hv
    rw [hzs] at hv
    rw [List.eq_of_mem_replicate hv]; rfl)
  obtain ⟨m, rfl⟩ : ∃ m, n = m + 1 := ⟨n - 1, by omega⟩
  simp only [Nat.add_zero] at hst
  refine ⟨W.setRow g (cur.toList.take o ++ zs ++ cur.toList.drop (o + zs.length)).toArray, ?_, ⟨fun j => ((cur.toList.take o ++ zs ++ cur.toList.drop (o + zs.length)).toArray[j]?).getD undef, ⟨_, setRow_heap W g cur _ _ _ hg, ?_, fun j hj => ?_⟩, fun j hj => ?_⟩, ⟨rfl, rfl, rfl, by simp [World.setRow], fun k _ hk => setRow_other W g k _ (fun e => hk e)⟩⟩
  · simp [Builtin.clear_, run_underlying Tryz.underlying26, lnzero_note W, Value.cells, hzc, hst]
  · simp [hzl]; omega
  · show _ = some ((_ : Option Value).getD undef)
    rw [Array.getElem?_eq_getElem (by simp [hzl]; omega)]
    rfl
  · have := hcur j (by omega)
    simp only [List.getElem?_toArray]
    rw [List.append_assoc, List.getElem?_append_left (by simp; omega), List.getElem?_take_of_lt hj, Array.getElem?_toList, this]
    rfl
/-- A list of notes in a block, being rewritten: the first ones are those that are left of the first read, those that are still to be read stand. -/
structure DelS (g c sb : Nat) (q : Int) (l : List Ln.Nt) (i j : Nat) (w W : World) : Prop where
  row : ∃ F, W.rowIs g 37 (c * 2) F ∧ (∀ t, t < i * 2 → F t = .int .i64 (Ln.fl (Ln.left q (l.take j)) t)) ∧ (∀ t, j * 2 ≤ t → t < l.length * 2 → F t = .int .i64 (Ln.fl l t))
  num : i = (Ln.left q (l.take j)).length ∧ i < j ∧ j ≤ l.length ∧ l.length ≤ c
  only : Only g w W
  cell : W.cell? ⟨sb, 0, none⟩ = some (.int .i64 q)
  ne : sb ≠ g
theorem DelS.below {g c sb : Nat} {q : Int} {l : List Ln.Nt} {i j : Nat} {w W W' : World} (h : DelS g c sb q l i j w W) (hb : Below W.heap.size W W') : DelS g c sb q l i j w W' := by
  obtain ⟨F, h1, h2, h3⟩ := h.row
  exact ⟨⟨F, nrow_below h1 hb, h2, h3⟩, h.num, ⟨hb.os.trans h.only.os, hb.tape.trans h.only.tape, hb.output.trans h.only.output, Nat.le_trans h.only.size hb.size, fun k hk hne => (hb.block k (Nat.lt_of_lt_of_le hk h.only.size)).trans (h.only.block k hk hne)⟩, (hb.cell (World.block_lt_of_cell? _ _ h.cell)).trans h.cell, h.ne⟩
theorem DelS.skip {g c sb : Nat} {q : Int} {l : List Ln.Nt} {i j : Nat} {w W : World} (h : DelS g c sb q l i j w W) (hj : j < l.length) (hx : Ln.fl l (j * 2) ≤ q) : DelS g c sb q l i (j + 1) w W := by
  have e : Ln.left q (l.take (j + 1)) = Ln.left q (l.take j) := by rw [Ln.left_take hj, if_neg (by omega), List.append_nil]
  obtain ⟨F, h1, h2, h3⟩ := h.row
  have n := h.num
  exact ⟨⟨F, h1, by rw [e]; exact h2, fun t a b => h3 t (by omega) b⟩, by rw [e]; omega, h.only, h.cell, h.ne⟩
theorem DelS.keep {g c sb : Nat} {q : Int} {l : List Ln.Nt} {i j : Nat} {w W : World} (h : DelS g c sb q l i j w W) (hj : j < l.length) (hx : ¬ Ln.fl l (j * 2) ≤ q) : DelS g c sb q l (i + 1) (j + 1) w ((W.setCell ⟨g, i * 2, none⟩ (.int .i64 (Ln.fl l (j * 2)))).setCell ⟨g, i * 2 + 1, none⟩ (.int .i64 (Ln.fl l (j * 2 + 1)))) := by
  have e : Ln.left q (l.take (j + 1)) = Ln.left q (l.take j) ++ [(Ln.fl l (j * 2), Ln.fl l (j * 2 + 1))] := by rw [Ln.left_take hj, if_pos (by omega)]
  obtain ⟨F, h1, h2, h3⟩ := h.row
  obtain ⟨n1, n2, n3, n4⟩ := h.num
  refine ⟨⟨_, (h1.set (i * 2) _).set (i * 2 + 1) _, fun t ht => ?_, fun t a b => ?_⟩, ⟨?_, by omega, by omega, n4⟩, (h.only.set _ _).set _ _, ?_, h.ne⟩
  · rw [e]
    by_cases c1 : t = i * 2 + 1
    · subst c1
      rw [if_pos rfl]
      have := Ln.fl_app2 (Ln.left q (l.take j)) [(Ln.fl l (j * 2), Ln.fl l (j * 2 + 1))] 1
      rw [← n1] at this
      rw [this]; rfl
    · rw [if_neg c1]
      by_cases c2 : t = i * 2
      · subst c2
        rw [if_pos rfl]
        have := Ln.fl_app2 (Ln.left q (l.take j)) [(Ln.fl l (j * 2), Ln.fl l (j * 2 + 1))] 0
        rw [← n1] at this
        have this2 : Ln.fl (Ln.left q (l.take j) ++ [(Ln.fl l (j * 2), Ln.fl l (j * 2 + 1))]) (i * 2) = _ := this
        rw [this2]; rfl
      · rw [if_neg c2, Ln.fl_app _ _ _ (by omega)]
        exact h2 t (by omega)
  · rw [if_neg (by omega), if_neg (by omega)]
    exact h3 t (by omega) b
  · rw [e, List.length_append]; simp; omega
  · rw [World.cell?_setCell_other _ _ _ _ (by intro h2; have := congrArg Addr.block h2; simp at this; exact h.ne this.symm), World.cell?_setCell_other _ _ _ _ (by intro h2; have := congrArg Addr.block h2; simp at this; exact h.ne this.symm)]
    exact h.cell
/-- What DeleteFunc tells. -/
def DelEnd (g c : Nat) (q : Int) (l : List Ln.Nt) (e : Ending) (W : World) : Prop := e = .returned (.slice (some ⟨g, 0, none⟩) (Ln.left q l).length c) ∧ ∃ F, W.rowIs g 37 (c * 2) F ∧ ∀ t, t < (Ln.left q l).length * 2 → F t = .int .i64 (Ln.fl (Ln.left q l) t)
set_option maxRecDepth 100000 in
set_option maxHeartbeats 8000000 in
theorem lndel_any (g c sb : Nat) (q : Int) (l : List Ln.Nt) (w : World) (h : ∃ F, w.rowIs g 37 (c * 2) F ∧ ∀ t, t < l.length * 2 → F t = .int .i64 (Ln.fl l t)) (hc : l.length ≤ c) (hq : w.cell? ⟨sb, 0, none⟩ = some (.int .i64 q)) (hne : sb ≠ g) (hn : l.length ≤ 1048576) :
    Calls Tryz.prog 101 #[.slice (some ⟨g, 0, none⟩) l.length c, hdF sb] w fun e w' => DelEnd g c q l e w' ∧ Only g w w' := by
  obtain ⟨F, hF, hF2⟩ := h
  have hin : IsIn (some ⟨g, 0, none⟩) (l.length * 2) (Ln.fl l) w := Or.inr ⟨g, 0, rfl, fun j hj => by rw [Nat.zero_add, hF.cell (by omega), hF2 j hj]⟩
  have HI := Lib.hid hin
  have HQ := Lib.hid hq
  have HF : Hid (w.rowIs g 37 (c * 2) F) := hF
  have HF2 : Hid (∀ t, t < l.length * 2 → F t = .int .i64 (Ln.fl l t)) := hF2
  clear hF hF2 hin hq
  obtain ⟨N, hN⟩ : ∃ N, N = l.length := ⟨_, rfl⟩
  have HN := Lib.hid hN
  rw [← hN] at hc hn ⊢
  clear hN
  go_enter Tryz.func101, Tryz.ntmps101
  go_wp2_with fail
  refine (lnidx_any _ N c sb _ q _ (by rw [HN.out]; exact HI.out) HQ.out hn).mono ?_
  rintro e w1 ⟨⟨z, rfl, hz⟩, hb⟩
  have HF1 := Lib.hid (nrow_below HF.out hb)
  have HQ1 := Lib.hid ((hb.cell (World.block_lt_of_cell? _ _ HQ.out)).trans HQ.out)
  have HO1 : Hid (Only g w w1) := Only.of_below hb
  clear hb HI HQ HF
  by_cases hz1 : z = -1
  · subst hz1
    have hall : ∀ i, i < N → q < Ln.fl l (i * 2) := by
      rcases hz with ⟨_, h⟩ | ⟨i, h, _⟩
      · exact h
      · omega
    have HE : Hid (Ln.left q l = l) := Ln.left_all (fun i hi => hall i (by rw [HN.out]; exact hi))
    clear hz hall
    go_wp2_with fail
    go_ret
    exact ⟨⟨by rw [HE.out, ← HN.out]; rfl, F, HF1.out, by rw [HE.out]; exact HF2.out⟩, HO1.out⟩
  obtain ⟨i0, rfl, hi0, hx0, hk0⟩ : ∃ i : Nat, z = i ∧ i < N ∧ Ln.fl l (i * 2) ≤ q ∧ ∀ k, k < i → q < Ln.fl l (k * 2) := by
    rcases hz with ⟨h, _⟩ | h
    · exact absurd h hz1
    · exact h
  have HST : Hid (DelS g c sb q l i0 (i0 + 1) w w1) := by
    have hil : i0 < l.length := by rw [← HN.out]; exact hi0
    have e1 : Ln.left q (l.take i0) = l.take i0 := Ln.left_all (fun k hk => by
      rw [List.length_take] at hk
      rw [Ln.take_fl (by omega) (by omega)]
      exact hk0 k (by omega))
    have e2 : Ln.left q (l.take (i0 + 1)) = l.take i0 := by rw [Ln.left_take hil, if_neg (by omega), List.append_nil, e1]
    refine ⟨⟨F, HF1.out, fun t ht => ?_, fun t _ b => HF2.out t b⟩, ⟨by rw [e2, List.length_take]; omega, by omega, by omega, by rw [← HN.out]; exact hc⟩, HO1.out, HQ1.out, hne⟩
    rw [e2, Ln.take_fl ht (by omega)]
    exact HF2.out t (by omega)
  have hne1 : (((i0 : Nat) : Int) == -1) = false := by rw [beq_eq_false_iff_ne]; omega
  have hi1 : i0 + 1 ≤ N := by omega
  clear hz hz1 hx0 hk0 HF1 HF2 HQ1 HO1
  go_wp2_with fail
  go_loopw [5, 6, 7] (fun iv jv _ wr => ∃ (i j : Nat), j ≤ N ∧ i < j ∧ iv = .int .i64 i ∧ jv = .int .i64 j ∧ Hid (DelS g c sb q l i j w wr)) (fun _ jv _ _ => N - (intOf jv).toNat)
  case atStart => exact ⟨i0, i0 + 1, hi1, by omega, rfl, by go_num, HST⟩
  case round =>
    obtain ⟨i, j, hj, hij, rfl, rfl, hS⟩ := hrel
    clear HST
    by_cases hlt : j < N
    · have hltz : (j : Int) < (N : Int) := by omega
      have hiz : (i : Int) < (N : Int) := by omega
      obtain ⟨x, hx⟩ : ∃ x, x = Ln.fl l (j * 2) := ⟨_, rfl⟩
      obtain ⟨y, hy⟩ : ∃ y, y = Ln.fl l (j * 2 + 1) := ⟨_, rfl⟩
      have hjl : j < l.length := by rw [← HN.out]; exact hlt
      have HJL := Lib.hid hjl
      have cc : wr.cell? ⟨g, j * 2, none⟩ = some (.int .i64 x) ∧ wr.cell? ⟨g, j * 2 + 1, none⟩ = some (.int .i64 y) := by
        obtain ⟨G, g1, _, g3⟩ := hS.out.row
        have n4 := hS.out.num.2.2.2
        exact ⟨by rw [hx, g1.cell (by omega), g3 _ (by omega) (by omega)], by rw [hy, g1.cell (by omega), g3 _ (by omega) (by omega)]⟩
      obtain ⟨c0, c1⟩ := cc
      have HX := Lib.hid hx
      have HY := Lib.hid hy
      obtain ⟨V, hV⟩ : ∃ V, V = wr.alloc (.cells #[.int .i64 x, .int .i64 y] 37) := ⟨_, rfl⟩
      have hbV : Below wr.heap.size wr V := by rw [hV]; exact nbel_alloc _ _
      have HV1 := Lib.hid (hS.out.below hbV)
      have HRV : Hid (V.rowIs wr.heap.size 37 2 (rowN [.int .i64 x, .int .i64 y])) := by show V.rowIs _ _ _ _; rw [hV]; exact rowN_alloc _ _ _
      have HV := Lib.hid hV
      clear hV hbV hS hx hy hjl
      go_wp2_with fail
      rw [← HV.out]
      clear HV
      refine (heardF_any q _ _ sb _ HV1.out.cell).mono ?_
      rintro e w2 ⟨rfl, hb⟩
      have HS2 := Lib.hid (HV1.out.below hb)
      obtain ⟨⟨r0, r1⟩, _⟩ := rowN2 (nrow_below HRV.out hb)
      clear hb HV1 HRV c0 c1
      by_cases cx : x ≤ q
      · rw [decide_eq_true cx]
        have HS3 := Lib.hid (HS2.out.skip HJL.out (by rw [← HX.out]; exact cx))
        clear cx HS2
        go_wp2_with fail
        go_roundw
        case rel => exact ⟨i, j + 1, by omega, by omega, rfl, by go_num, HS3⟩
        case measure => simp [intOf]; omega
      · rw [decide_eq_false cx]
        have HS3 := Lib.hid (HS2.out.keep HJL.out (by rw [← HX.out]; exact cx))
        rw [← HX.out, ← HY.out] at HS3
        obtain ⟨⟨u0, d0⟩, ⟨u1, d1⟩, f0, f1, hlg⟩ : (∃ u, w2.cell? ⟨g, i * 2, none⟩ = some u) ∧ (∃ u, w2.cell? ⟨g, i * 2 + 1, none⟩ = some u) ∧ w2.frozen? ⟨g, i * 2, none⟩ = false ∧ w2.frozen? ⟨g, i * 2 + 1, none⟩ = false ∧ g < w2.heap.size := by
          obtain ⟨G, g1, _, _⟩ := HS2.out.row
          have n4 := HS2.out.num
          exact ⟨⟨_, g1.cell (by omega)⟩, ⟨_, g1.cell (by omega)⟩, g1.frozen _, g1.frozen _, g1.lt⟩
        clear cx HS2
        go_wp2_with fail
        go_roundw
        case rel => exact ⟨i + 1, j + 1, by omega, by omega, by go_num, by go_num, HS3⟩
        case measure => simp [intOf]; omega
    · obtain rfl : j = N := by omega
      have hiz : (i : Int) ≤ (j : Int) := by omega
      have hjc : (j : Int) ≤ (c : Int) := by omega
      have hic : ¬ (c : Int) - (i : Int) = 0 := by omega
      obtain ⟨G, g1, g2, _⟩ := hS.out.row
      obtain ⟨W', hcl, ⟨F', hF', hF3⟩, hO⟩ := lnclear (n := j - i) (c := c - i) (o := i * 2) g1 (by omega) (by omega) 0
      have htk : l.take j = l := by rw [HN.out]; exact List.take_length
      have n1 := hS.out.num.1
      rw [htk] at n1 g2
      have HE : Hid (DelEnd g c q l (.returned (.slice (some ⟨g, 0, none⟩) i c)) W') := ⟨by rw [n1], F', hF', fun t ht => by rw [← n1] at ht; rw [hF3 t ht]; exact g2 t ht⟩
      have HOO : Hid (Only g w W') := ⟨hO.os.trans hS.out.only.os, hO.tape.trans hS.out.only.tape, hO.output.trans hS.out.only.output, Nat.le_trans hS.out.only.size hO.size, fun k hk hne => (hO.block k (Nat.lt_of_lt_of_le hk hS.out.only.size) hne).trans (hS.out.only.block k hk hne)⟩
      clear hO hF' hF3 g1 g2 htk n1 hS
      go_wp2_with fail
      go_ret
      exact ⟨HE.out, HOO.out⟩
set_option maxRecDepth 100000 in
set_option maxHeartbeats 2000000 in
theorem lnnil_any (n c sb : Nat) (q : Int) (w : World) (hn : n = 0) (hq : w.cell? ⟨sb, 0, none⟩ = some (.int .i64 q)) :
    Calls Tryz.prog 101 #[.slice none n c, hdF sb] w fun e w' => e = .returned (.slice none n c) ∧ Below w.heap.size w w' := by
  subst hn
  have HQ := Lib.hid hq
  clear hq
  go_enter Tryz.func101, Tryz.ntmps101
  go_wp2_with fail
  refine (lnidx_any none 0 c sb (fun _ => 0) q _ (Or.inl rfl) HQ.out (by omega)).mono ?_
  rintro e w1 ⟨⟨z, rfl, hz⟩, hb⟩
  have HB := Lib.hid hb
  obtain rfl : z = -1 := by
    rcases hz with ⟨h, _⟩ | ⟨i, _, h, _⟩
    · exact h
    · omega
  clear hb hz
  go_wp2_with fail
  go_ret
  exact ⟨rfl, HB.out⟩
set_option maxRecDepth 100000 in
set_option maxHeartbeats 8000000 in
theorem implHeard_any (s : Ln.S) (a : Option Addr) (k : Nat) (q : Int) (w : World) (h : IsIn a (s.wait.length * 2) (Ln.fl s.wait) w) (hn : s.wait.length ≤ 1048576) :
    Calls Tryz.prog 82 #[stV s a k, .int .i64 q] w fun e w' => StEnd (s.heard q) w.heap.size e w' ∧ Below w.heap.size w w' := by
  obtain ⟨W, hW⟩ : ∃ W, W = ((w.alloc (stO s a k)).alloc (.cells #[.int .i64 q] 2)).alloc stZO := ⟨_, rfl⟩
  have hsz : W.heap.size = w.heap.size + 3 := by rw [hW]; simp
  have HB : Hid (Below w.heap.size w W) := by show Below _ _ _; rw [hW]; exact (((Below.refl _ _).alloc (Nat.le_refl _) _).alloc (by simp) _).alloc (by simp; omega) _
  have HX : Hid (W.rowIs w.heap.size 28 7 (rowN (stL s a k))) := by show W.rowIs _ _ _ _; rw [hW]; exact nrow_below (nrow_below (rowN_alloc w (stL s a k) _) (nbel_alloc _ _)) (nbel_alloc _ _)
  have HC : Hid (W.rowIs (w.heap.size + 1) 2 1 (rowN [.int .i64 q])) := by show W.rowIs _ _ _ _; rw [hW]; exact nrow_below (rowN_alloc' (by simp) [.int .i64 q] _) (nbel_alloc _ _)
  have HY : Hid (W.rowIs (w.heap.size + 2) 28 7 (rowN stZ)) := by show W.rowIs _ _ _ _; rw [hW]; exact rowN_alloc' (by simp) stZ _
  have H := Lib.hid (h.below HB.out)
  have HN := Lib.hid hn
  have HW := Lib.hid hW
  have HSZ := Lib.hid hsz
  clear hW h hsz
  go_enter Tryz.func82, Tryz.ntmps82
  go_wp2_with fail
  rw [← HW.out]
  clear HW
  refine (cln_any a k s.wait _ H.out HN.out).mono ?_
  rintro e w1 ⟨⟨v1, rfl, hown⟩, hb⟩
  rw [HSZ.out] at hown
  obtain ⟨a1, k1, rfl, _, _⟩ := own_ns hown
  replace HX := Lib.hid (nrow_below HX.out hb)
  replace HY := Lib.hid (nrow_below HY.out hb)
  replace HC := Lib.hid (nrow_below HC.out hb)
  replace HB : Hid (Below w.heap.size w w1) := HB.out.trans (hb.mono HB.out.size)
  have HO := Lib.hid hown
  have hs1 : w.heap.size + 3 ≤ w1.heap.size := by have := hb.size; rw [HSZ.out] at this; exact this
  clear hb hown H HSZ
  obtain ⟨W2, hW2⟩ : ∃ W2, W2 = w1.setCell ⟨w.heap.size, 5, none⟩ (.slice a1 s.wait.length k1) := ⟨_, rfl⟩
  have b2 : ∀ x, x ≠ w.heap.size → W2.heap[x]? = w1.heap[x]? := fun x hx => by rw [hW2]; exact bihs _ _ _ hx _ _
  have HX2 : Hid (W2.rowIs w.heap.size 28 7 (rowN (stL s a1 k1))) := by show W2.rowIs _ _ _ _; rw [hW2]; exact rowN_put HX.out 5 _ (by simp)
  have HY2 : Hid (W2.rowIs (w.heap.size + 2) 28 7 (rowN stZ)) := HY.out.of_block (b2 _ (by omega))
  have HC2 : Hid (W2.rowIs (w.heap.size + 1) 2 1 (rowN [.int .i64 q])) := HC.out.of_block (b2 _ (by omega))
  have HB2 : Hid (Below w.heap.size w W2) := by show Below _ _ _; rw [hW2]; exact HB.out.setCell (p := ⟨w.heap.size, 5, none⟩) (Nat.le_refl _) _
  have HO2 : Hid (W2.ownsRow (w.heap.size + 3) 37 2 (.slice a1 s.wait.length k1) s.wait.length (nvs s.wait)) := ownsRow_keep HO.out (Nat.le_refl _) (fun x hx _ => b2 x (by omega))
  have HW2 := Lib.hid hW2
  obtain ⟨⟨x0, x1, x2, x3, x4, x5, x6⟩, f0, f1, f2, f3, f4, f5, f6⟩ := rowN7 HX.out
  have hl0 := HX.out.lt
  clear hW2 b2
  go_wp2_with fail
  rw [← HW2.out]
  clear HW2 HX HY HO HB HC x0 x1 x2 x3 x4 x5 x6 f0 f1 f2 f3 f4 f5 f6 hl0
  obtain ⟨a1', c1', e1, hq, hq2⟩ := own_ns HO2.out
  cases e1
  have HQ := Lib.hid hq
  have HQ2 := Lib.hid hq2
  clear hq hq2
  refine (implSRight_any s a1 k1 _ HQ.out.in_ (by have := HN.out; omega)).mono ?_
  rintro e w3 ⟨rfl, hb⟩
  have HX3 := Lib.hid (nrow_below HX2.out hb)
  have HY3 := Lib.hid (nrow_below HY2.out hb)
  have HC3 := Lib.hid (nrow_below HC2.out hb)
  have HB3 : Hid (Below w.heap.size w w3) := HB2.out.trans (hb.mono HB2.out.size)
  have HQ3 := Lib.hid (HQ.out.below hb)
  have HF3 : Hid ((a1 = none ∧ s.wait.length = 0 ∧ k1 = 0) ∨ ∃ g, a1 = some ⟨g, 0, none⟩ ∧ w.heap.size + 3 ≤ g ∧ s.wait.length ≤ k1 ∧ ∃ F, w3.rowIs g 37 (k1 * 2) F ∧ ∀ j, j < s.wait.length * 2 → F j = .int .i64 (Ln.fl s.wait j)) := by
    rcases HQ2.out with h | ⟨g, e1, e2, e3, F, e4, e5⟩
    · exact Or.inl h
    · exact Or.inr ⟨g, e1, e2, e3, F, nrow_below e4 hb, e5⟩
  clear hb HX2 HY2 HC2 HB2 HQ HO2 HQ2
  obtain ⟨⟨x0, x1, x2, x3, x4, x5, x6⟩, f0, f1, f2, f3, f4, f5, f6⟩ := rowN7 HX3.out
  obtain ⟨⟨y0, y1, y2, y3, y4, y5, y6⟩, g0, g1, g2, g3, g4, g5, g6⟩ := rowN7 HY3.out
  have hl0 := HX3.out.lt
  have hl1 := HY3.out.lt
  by_cases ct : s.Right
  case neg =>
    rw [lB_ff ct]
    have HE : Hid (s.heard q = s) := Ln.S.heard_no ct
    clear ct
    obtain ⟨M, hM⟩ : ∃ M, M = s.wait.length := ⟨_, rfl⟩
    have HM := Lib.hid hM
    clear hM
    have zr := Lib.hid (lput7 HY3.out rfl (.int .i64 s.unit) (.int .i64 s.band) (.bool s.seen) (.int .i64 s.last) (.int .i64 s.next) (.slice a1 s.wait.length k1) (.int .i64 s.drops))
    have zb := Lib.hid (lbel7 HB3.out (g := w.heap.size + 2) (by omega) (.int .i64 s.unit) (.int .i64 s.band) (.bool s.seen) (.int .i64 s.last) (.int .i64 s.next) (.slice a1 s.wait.length k1) (.int .i64 s.drops))
    have zq : Hid (NqOwn 37 w.heap.size s.wait.length a1 (Ln.fl s.wait) ((((((((w3.setCell ⟨w.heap.size + 2, 0, none⟩ (.int .i64 s.unit)).setCell ⟨w.heap.size + 2, 1, none⟩ (.int .i64 s.band)).setCell ⟨w.heap.size + 2, 2, none⟩ (.bool s.seen)).setCell ⟨w.heap.size + 2, 3, none⟩ (.int .i64 s.last)).setCell ⟨w.heap.size + 2, 4, none⟩ (.int .i64 s.next)).setCell ⟨w.heap.size + 2, 5, none⟩ (.slice a1 s.wait.length k1)).setCell ⟨w.heap.size + 2, 6, none⟩ (.int .i64 s.drops)))) := (HQ3.out.same (fun x hx _ => lblk7 (by omega) _ _ _ _ _ _ _)).low (by omega)
    go_wp2_with fail
    refine bodyPost_ret (v := stV ⟨s.unit, s.band, s.seen, s.last, s.next, s.wait, s.drops⟩ a1 k1) ?_ rfl ⟨by rw [HE.out]; exact ⟨_, _, rfl, zq.out⟩, zb.out⟩
    obtain ⟨⟨u0, u1, u2, u3, u4, u5, u6⟩, _⟩ := rowN7 zr.out
    simp only [results, Tryz.results82]
    simp [go_sem, u0, u1, u2, u3, u4, u5, u6]
  rw [lB_tt ct]
  have HE : Hid (s.heard q = ⟨s.unit, s.band, s.seen, s.last, s.next, Ln.left q s.wait, s.drops⟩) := Ln.S.heard_yes ct
  clear ct
  rcases HF3.out with ⟨rfl, hl, rfl⟩ | ⟨gg, rfl, hg5, hlk, hrow⟩
  · have hnil : s.wait = [] := List.eq_nil_of_length_eq_zero hl
    have HLE : Hid (Ln.left q s.wait = s.wait) := by show _ = _; rw [hnil]; rfl
    have HL0 := Lib.hid hl
    clear hl hnil
    go_wp2_with fail
    refine (lnnil_any s.wait.length 0 (w.heap.size + 1) q w3 HL0.out (HC3.out.cell (i := 0) (by omega))).mono ?_
    rintro e w4 ⟨rfl, hb⟩
    have HX4 := Lib.hid (nrow_below HX3.out hb)
    have HY4 := Lib.hid (nrow_below HY3.out hb)
    have HB4 : Hid (Below w.heap.size w w4) := HB3.out.trans (hb.mono HB3.out.size)
    have HQ4 := Lib.hid (HQ3.out.below hb)
    clear hb HX3 HY3 HC3 HB3 HQ3 HF3 x0 x1 x2 x3 x4 x5 x6 f0 f1 f2 f3 f4 f5 f6 y0 y1 y2 y3 y4 y5 y6 g0 g1 g2 g3 g4 g5 g6 hl0 hl1
    obtain ⟨⟨x0, x1, x2, x3, x4, x5, x6⟩, f0, f1, f2, f3, f4, f5, f6⟩ := rowN7 HX4.out
    obtain ⟨⟨y0, y1, y2, y3, y4, y5, y6⟩, g0, g1, g2, g3, g4, g5, g6⟩ := rowN7 HY4.out
    have hl0 := HX4.out.lt
    have hl1 := HY4.out.lt
    obtain ⟨M, hM⟩ : ∃ M, M = s.wait.length := ⟨_, rfl⟩
    rw [← hM]
    have HM := Lib.hid hM
    clear hM
    obtain ⟨V, hV⟩ : ∃ V, V = w4.setCell ⟨w.heap.size, 5, none⟩ (.slice none M 0) := ⟨_, rfl⟩
    have bV : ∀ x, x ≠ w.heap.size → V.heap[x]? = w4.heap[x]? := fun x hx => by rw [hV]; exact bihs _ _ _ hx _ _
    have HBV : Hid (Below w.heap.size w V) := by show Below _ _ _; rw [hV]; exact HB4.out.setCell (p := ⟨w.heap.size, _, none⟩) (Nat.le_refl _) _
    have HYV : Hid (V.rowIs (w.heap.size + 2) 28 7 (rowN stZ)) := HY4.out.of_block (bV _ (by omega))
    have HQV : Hid (NqOwn 37 (w.heap.size + 3) s.wait.length none (Ln.fl s.wait) V) := HQ4.out.same (fun x hx _ => bV x (by omega))
    have HV := Lib.hid hV
    clear hV bV
    have zr := Lib.hid (lput7 HYV.out rfl (.int .i64 s.unit) (.int .i64 s.band) (.bool s.seen) (.int .i64 s.last) (.int .i64 s.next) (.slice none M 0) (.int .i64 s.drops))
    have zb := Lib.hid (lbel7 HBV.out (g := w.heap.size + 2) (by omega) (.int .i64 s.unit) (.int .i64 s.band) (.bool s.seen) (.int .i64 s.last) (.int .i64 s.next) (.slice none M 0) (.int .i64 s.drops))
    have zq : Hid (NqOwn 37 w.heap.size s.wait.length none (Ln.fl s.wait) ((((((((V.setCell ⟨w.heap.size + 2, 0, none⟩ (.int .i64 s.unit)).setCell ⟨w.heap.size + 2, 1, none⟩ (.int .i64 s.band)).setCell ⟨w.heap.size + 2, 2, none⟩ (.bool s.seen)).setCell ⟨w.heap.size + 2, 3, none⟩ (.int .i64 s.last)).setCell ⟨w.heap.size + 2, 4, none⟩ (.int .i64 s.next)).setCell ⟨w.heap.size + 2, 5, none⟩ (.slice none M 0)).setCell ⟨w.heap.size + 2, 6, none⟩ (.int .i64 s.drops)))) := (HQV.out.same (fun x hx _ => lblk7 (by omega) _ _ _ _ _ _ _)).low (by omega)
    rw [HV.out] at zr zb zq
    clear HV HBV HYV HQV
    go_wp2_with fail
    refine bodyPost_ret (v := stV ⟨s.unit, s.band, s.seen, s.last, s.next, s.wait, s.drops⟩ none 0) ?_ rfl ⟨by rw [HE.out, HLE.out]; exact ⟨_, _, rfl, zq.out⟩, zb.out⟩
    obtain ⟨⟨u0, u1, u2, u3, u4, u5, u6⟩, _⟩ := rowN7 zr.out
    simp only [results, Tryz.results82]
    simp only [stV, ← HM.out]
    simp [go_sem, u0, u1, u2, u3, u4, u5, u6]
  · go_wp2_with fail
    refine (lndel_any gg k1 (w.heap.size + 1) q s.wait w3 hrow hlk (HC3.out.cell (i := 0) (by omega)) (by omega) HN.out).mono ?_
    rintro e w4 ⟨⟨rfl, hend⟩, ho⟩
    have HX4 : Hid (w4.rowIs w.heap.size 28 7 (rowN (stL s (some ⟨gg, 0, none⟩) k1))) := HX3.out.of_block (ho.block _ HX3.out.lt (by omega))
    have HY4 : Hid (w4.rowIs (w.heap.size + 2) 28 7 (rowN stZ)) := HY3.out.of_block (ho.block _ HY3.out.lt (by omega))
    have HB4 : Hid (Below w.heap.size w w4) := HB3.out.trans (ho.below (by omega) HB3.out.size)
    have HQ4 : Hid (NqOwn 37 (w.heap.size + 3) (Ln.left q s.wait).length (some ⟨gg, 0, none⟩) (Ln.fl (Ln.left q s.wait)) w4) := by
      obtain ⟨F, e1, e2⟩ := hend
      have := Ln.left_len q s.wait
      exact Or.inr ⟨gg, 0, rfl, hg5, k1 * 2, F, by omega, e1, fun j hj => by rw [Nat.zero_add]; exact e2 j hj⟩
    clear hend ho HX3 HY3 HC3 HB3 HQ3 HF3 x0 x1 x2 x3 x4 x5 x6 f0 f1 f2 f3 f4 f5 f6 y0 y1 y2 y3 y4 y5 y6 g0 g1 g2 g3 g4 g5 g6 hl0 hl1 hrow
    obtain ⟨⟨x0, x1, x2, x3, x4, x5, x6⟩, f0, f1, f2, f3, f4, f5, f6⟩ := rowN7 HX4.out
    obtain ⟨⟨y0, y1, y2, y3, y4, y5, y6⟩, g0, g1, g2, g3, g4, g5, g6⟩ := rowN7 HY4.out
    have hl0 := HX4.out.lt
    have hl1 := HY4.out.lt
    obtain ⟨M, hM⟩ : ∃ M, M = (Ln.left q s.wait).length := ⟨_, rfl⟩
    rw [← hM]
    have HM := Lib.hid hM
    clear hM
    obtain ⟨V, hV⟩ : ∃ V, V = w4.setCell ⟨w.heap.size, 5, none⟩ (.slice (some ⟨gg, 0, none⟩) M k1) := ⟨_, rfl⟩
    have bV : ∀ x, x ≠ w.heap.size → V.heap[x]? = w4.heap[x]? := fun x hx => by rw [hV]; exact bihs _ _ _ hx _ _
    have HBV : Hid (Below w.heap.size w V) := by show Below _ _ _; rw [hV]; exact HB4.out.setCell (p := ⟨w.heap.size, _, none⟩) (Nat.le_refl _) _
    have HYV : Hid (V.rowIs (w.heap.size + 2) 28 7 (rowN stZ)) := HY4.out.of_block (bV _ (by omega))
    have HQV : Hid (NqOwn 37 (w.heap.size + 3) (Ln.left q s.wait).length (some ⟨gg, 0, none⟩) (Ln.fl (Ln.left q s.wait)) V) := HQ4.out.same (fun x hx _ => bV x (by omega))
    have HV := Lib.hid hV
    clear hV bV
    have zr := Lib.hid (lput7 HYV.out rfl (.int .i64 s.unit) (.int .i64 s.band) (.bool s.seen) (.int .i64 s.last) (.int .i64 s.next) (.slice (some ⟨gg, 0, none⟩) M k1) (.int .i64 s.drops))
    have zb := Lib.hid (lbel7 HBV.out (g := w.heap.size + 2) (by omega) (.int .i64 s.unit) (.int .i64 s.band) (.bool s.seen) (.int .i64 s.last) (.int .i64 s.next) (.slice (some ⟨gg, 0, none⟩) M k1) (.int .i64 s.drops))
    have zq : Hid (NqOwn 37 w.heap.size (Ln.left q s.wait).length (some ⟨gg, 0, none⟩) (Ln.fl (Ln.left q s.wait)) ((((((((V.setCell ⟨w.heap.size + 2, 0, none⟩ (.int .i64 s.unit)).setCell ⟨w.heap.size + 2, 1, none⟩ (.int .i64 s.band)).setCell ⟨w.heap.size + 2, 2, none⟩ (.bool s.seen)).setCell ⟨w.heap.size + 2, 3, none⟩ (.int .i64 s.last)).setCell ⟨w.heap.size + 2, 4, none⟩ (.int .i64 s.next)).setCell ⟨w.heap.size + 2, 5, none⟩ (.slice (some ⟨gg, 0, none⟩) M k1)).setCell ⟨w.heap.size + 2, 6, none⟩ (.int .i64 s.drops)))) := (HQV.out.same (fun x hx _ => lblk7 (by omega) _ _ _ _ _ _ _)).low (by omega)
    rw [HV.out] at zr zb zq
    clear HV HBV HYV HQV
    go_wp2_with fail
    refine bodyPost_ret (v := stV ⟨s.unit, s.band, s.seen, s.last, s.next, (Ln.left q s.wait), s.drops⟩ (some ⟨gg, 0, none⟩) k1) ?_ rfl ⟨by rw [HE.out]; exact ⟨_, _, rfl, zq.out⟩, zb.out⟩
    obtain ⟨⟨u0, u1, u2, u3, u4, u5, u6⟩, _⟩ := rowN7 zr.out
    simp only [results, Tryz.results82]
    simp only [stV, ← HM.out]
    simp [go_sem, u0, u1, u2, u3, u4, u5, u6]
end Go.Proofs.YtdlojhncbgfjbaaGreatDoor
namespace Go.Proofs.YtdlojhncbgfjbaaGreatDoor
open Go.RowKit Go.Deep Go.MuLone

theorem rowN10 {w : World} {g : Nat} {t : TypeId} {x0 x1 x2 x3 x4 x5 x6 x7 x8 x9 : Value} (h : w.rowIs g t 10 (rowN [x0, x1, x2, x3, x4, x5, x6, x7, x8, x9])) : (w.cell? ⟨g, 0, none⟩ = some x0 ∧ w.cell? ⟨g, 1, none⟩ = some x1 ∧ w.cell? ⟨g, 2, none⟩ = some x2 ∧ w.cell? ⟨g, 3, none⟩ = some x3 ∧ w.cell? ⟨g, 4, none⟩ = some x4 ∧ w.cell? ⟨g, 5, none⟩ = some x5 ∧ w.cell? ⟨g, 6, none⟩ = some x6 ∧ w.cell? ⟨g, 7, none⟩ = some x7 ∧ w.cell? ⟨g, 8, none⟩ = some x8 ∧ w.cell? ⟨g, 9, none⟩ = some x9) ∧ (w.frozen? ⟨g, 0, none⟩ = false ∧ w.frozen? ⟨g, 1, none⟩ = false ∧ w.frozen? ⟨g, 2, none⟩ = false ∧ w.frozen? ⟨g, 3, none⟩ = false ∧ w.frozen? ⟨g, 4, none⟩ = false ∧ w.frozen? ⟨g, 5, none⟩ = false ∧ w.frozen? ⟨g, 6, none⟩ = false ∧ w.frozen? ⟨g, 7, none⟩ = false ∧ w.frozen? ⟨g, 8, none⟩ = false ∧ w.frozen? ⟨g, 9, none⟩ = false) :=
  ⟨⟨h.cell (i := 0) (by omega), h.cell (i := 1) (by omega), h.cell (i := 2) (by omega), h.cell (i := 3) (by omega), h.cell (i := 4) (by omega), h.cell (i := 5) (by omega), h.cell (i := 6) (by omega), h.cell (i := 7) (by omega), h.cell (i := 8) (by omega), h.cell (i := 9) (by omega)⟩, ⟨h.frozen 0, h.frozen 1, h.frozen 2, h.frozen 3, h.frozen 4, h.frozen 5, h.frozen 6, h.frozen 7, h.frozen 8, h.frozen 9⟩⟩
theorem rowN5l {w : World} {g : Nat} {t : TypeId} {x0 x1 x2 x3 x4 : Value} (h : w.rowIs g t 5 (rowN [x0, x1, x2, x3, x4])) : (w.cell? ⟨g, 0, none⟩ = some x0 ∧ w.cell? ⟨g, 1, none⟩ = some x1 ∧ w.cell? ⟨g, 2, none⟩ = some x2 ∧ w.cell? ⟨g, 3, none⟩ = some x3 ∧ w.cell? ⟨g, 4, none⟩ = some x4) ∧ (w.frozen? ⟨g, 0, none⟩ = false ∧ w.frozen? ⟨g, 1, none⟩ = false ∧ w.frozen? ⟨g, 2, none⟩ = false ∧ w.frozen? ⟨g, 3, none⟩ = false ∧ w.frozen? ⟨g, 4, none⟩ = false) :=
  ⟨⟨h.cell (i := 0) (by omega), h.cell (i := 1) (by omega), h.cell (i := 2) (by omega), h.cell (i := 3) (by omega), h.cell (i := 4) (by omega)⟩, ⟨h.frozen 0, h.frozen 1, h.frozen 2, h.frozen 3, h.frozen 4⟩⟩
/-- A post in memory. -/
def poL (m : Int) (s : Ln.S) (a : Option Addr) (k : Nat) (n : Int) : List Value := [.int .i32 m, .int .u32 0, .int .i64 s.unit, .int .i64 s.band, .bool s.seen, .int .i64 s.last, .int .i64 s.next, .slice a s.wait.length k, .int .i64 s.drops, .int .i64 n]
/-- Nothing but block p has changed. -/
structure LnOnly (p : Nat) (w w' : World) : Prop where
  os : w'.os = w.os
  tape : w'.tape = w.tape
  output : w'.output = w.output
  size : w.heap.size ≤ w'.heap.size
  blk : ∀ q, q ≠ p → q < w.heap.size → w'.heap[q]? = w.heap[q]?
theorem LnOnly.set {p : Nat} (w : World) (i : Nat) (x : Value) : LnOnly p w (w.setCell ⟨p, i, none⟩ x) := ⟨rfl, rfl, rfl, by simp, fun q hq _ => bihs _ _ _ hq _ _⟩
theorem LnOnly.below {p : Nat} {w w' : World} (h : Below w.heap.size w w') : LnOnly p w w' := ⟨h.os, h.tape, h.output, h.size, fun q _ hq => h.block q hq⟩
theorem LnOnly.trans {p : Nat} {w w' w'' : World} (h : LnOnly p w w') (h2 : LnOnly p w' w'') : LnOnly p w w'' := ⟨h2.os.trans h.os, h2.tape.trans h.tape, h2.output.trans h.output, Nat.le_trans h.size h2.size, fun q hq hl => (h2.blk q hq (Nat.lt_of_lt_of_le hl h.size)).trans (h.blk q hq hl)⟩
theorem LnOnly.bel {p C : Nat} {w0 w w' : World} (h : LnOnly p w w') (hb : Below C w0 w) (hC : C ≤ p) (hC2 : C ≤ w.heap.size) : Below C w0 w' := hb.trans ⟨h.os, h.tape, h.output, h.size, fun q hq => h.blk q (by omega) (by omega)⟩
theorem LnOnly.row {p g n : Nat} {t : TypeId} {F : Nat → Value} {w w' : World} (h : LnOnly p w w') (hg : g ≠ p) (hr : w.rowIs g t n F) : w'.rowIs g t n F := hr.of_block (h.blk g hg hr.lt)
theorem LnOnly.own {p N : Nat} {B : Nat} {a : Option Addr} {f : Nat → Int} {w w' : World} (h : LnOnly p w w') (hp : p < B) (hq : NqOwn 37 B N a f w) : NqOwn 37 B N a f w' := hq.same (fun k hk hl => h.blk k (by omega) hl)
/-- A number of 64 bits. -/
def Nb (n : Int) : Prop := -9223372036854775808 ≤ n ∧ n ≤ 9223372036854775807
theorem nb_wrap (x : Int) : Nb (wrap64 x) := by unfold Nb; simp [wrap64]; omega
/-- Behind a method of a post. -/
def PoEnd (s : Ln.S) (n : Int) (p : Nat) (W W' : World) : Prop := ∃ a k, W'.rowIs p 92 10 (rowN (poL 0 s a k n)) ∧ NqOwn 37 W.heap.size s.wait.length a (Ln.fl s.wait) W' ∧ LnOnly p W W'
set_option maxRecDepth 100000 in
set_option maxHeartbeats 8000000 in
theorem poNote_any (s : Ln.S) (a : Option Addr) (k : Nat) (n v : Int) (p : Nat) (W : World) (hr : W.rowIs p 92 10 (rowN (poL 0 s a k n))) (h : NqOwn 37 (p + 1) s.wait.length a (Ln.fl s.wait) W) (hn : s.wait.length ≤ 1048576) :
    Calls Tryz.prog 39 #[.pointer (some ⟨p, 0, none⟩), .int .i64 v] W fun e W' => e = .returned (.tuple #[]) ∧ PoEnd (s.note v) n p W W' := by
  have hpl := hr.lt
  obtain ⟨⟨c0, c1, c2, c3, c4, c5, c6, c7, c8, c9⟩, f0, f1, f2, f3, f4, f5, f6, f7, f8, f9⟩ := rowN10 hr
  go_enter_defers Tryz.func39, Tryz.ntmps39
  go_wp2_with fail
  refine (lock_free Tryz.muLib ⟨p, 0, none⟩ _ c0 f0).mono ?_
  rintro e V ⟨rfl, hV⟩
  have RV : Hid (V.rowIs p 92 10 (rowN (poL 1 s a k n))) := by show V.rowIs _ _ _ _; rw [hV]; exact rowN_put hr 0 _ (by simp [poL])
  have OV : Hid (LnOnly p W V) := by show LnOnly _ _ _; rw [hV]; exact LnOnly.set W 0 _
  have HS := Lib.hid (OV.out.own (by omega) h)
  clear hV c0 c1 c2 c3 c4 c5 c6 c7 c8 c9 f0 f1 f2 f3 f4 f5 f6 f7 f8 f9 hr h
  obtain ⟨⟨c0, c1, c2, c3, c4, c5, c6, c7, c8, c9⟩, f0, f1, f2, f3, f4, f5, f6, f7, f8, f9⟩ := rowN10 RV.out
  go_wp2_with fail
  refine (implNote_any s a k v _ HS.out.in_ hn).mono ?_
  rintro e V2 ⟨⟨a2, k2, rfl, hq⟩, hb⟩
  obtain ⟨X, hX⟩ : ∃ X, X = s.note v := ⟨_, rfl⟩
  rw [← hX] at hq ⊢
  have HX := Lib.hid hX
  have RV2 := Lib.hid (nrow_below RV.out hb)
  have OV2 : Hid (LnOnly p W V2) := OV.out.trans (LnOnly.below hb)
  have HQ : Hid (NqOwn 37 W.heap.size X.wait.length a2 (Ln.fl X.wait) V2) := hq.low OV.out.size
  clear hX hq hb RV OV HS c0 c1 c2 c3 c4 c5 c6 c7 c8 c9 f0 f1 f2 f3 f4 f5 f6 f7 f8 f9
  obtain ⟨⟨c0, c1, c2, c3, c4, c5, c6, c7, c8, c9⟩, f0, f1, f2, f3, f4, f5, f6, f7, f8, f9⟩ := rowN10 RV2.out
  have hl0 := RV2.out.lt
  have R7 := Lib.hid (rowN_put (rowN_put (rowN_put (rowN_put (rowN_put (rowN_put (rowN_put RV2.out 2 (.int .i64 X.unit) (by simp [poL])) 3 (.int .i64 X.band) (by simp [poL])) 4 (.bool X.seen) (by simp [poL])) 5 (.int .i64 X.last) (by simp [poL])) 6 (.int .i64 X.next) (by simp [poL])) 7 (.slice a2 X.wait.length k2) (by simp [poL])) 8 (.int .i64 X.drops) (by simp [poL]))
  have O7 := Lib.hid (((((((LnOnly.set (p := p) V2 2 (.int .i64 X.unit)).trans (LnOnly.set _ 3 (.int .i64 X.band))).trans (LnOnly.set _ 4 (.bool X.seen))).trans (LnOnly.set _ 5 (.int .i64 X.last))).trans (LnOnly.set _ 6 (.int .i64 X.next))).trans (LnOnly.set _ 7 (.slice a2 X.wait.length k2))).trans (LnOnly.set _ 8 (.int .i64 X.drops)))
  go_wp2_with fail
  refine leaves_cons (f := 33) (args := #[.pointer (some ⟨p, 0, none⟩)]) (by simp) (by simp [go_sem]) ?_
  refine (unlock_deferred Tryz.muLib ⟨p, 0, none⟩ .returning _ ((rowN10 R7.out).1.1) ((rowN10 R7.out).2.1)).mono ?_
  rintro e u' w'' ⟨rfl, rfl, rfl⟩
  refine ⟨_, results_none rfl _ _ _, rfl, ?_⟩
  rw [← HX.out]
  exact ⟨a2, k2, rowN_put R7.out 0 (.int .i32 0) (by simp [poL]), (O7.out.trans (LnOnly.set _ 0 _)).own hpl HQ.out, OV2.out.trans (O7.out.trans (LnOnly.set _ 0 _))⟩
set_option maxRecDepth 100000 in
set_option maxHeartbeats 8000000 in
theorem poHear_any (s : Ln.S) (a : Option Addr) (k : Nat) (n v : Int) (p : Nat) (W : World) (hr : W.rowIs p 92 10 (rowN (poL 0 s a k n))) (h : NqOwn 37 (p + 1) s.wait.length a (Ln.fl s.wait) W) (hn : s.wait.length ≤ 1048576) :
    Calls Tryz.prog 58 #[.pointer (some ⟨p, 0, none⟩), .int .i64 v] W fun e W' => e = .returned (.tuple #[]) ∧ PoEnd (s.heard v) n p W W' := by
  have hpl := hr.lt
  obtain ⟨⟨c0, c1, c2, c3, c4, c5, c6, c7, c8, c9⟩, f0, f1, f2, f3, f4, f5, f6, f7, f8, f9⟩ := rowN10 hr
  go_enter_defers Tryz.func58, Tryz.ntmps58
  go_wp2_with fail
  refine (lock_free Tryz.muLib ⟨p, 0, none⟩ _ c0 f0).mono ?_
  rintro e V ⟨rfl, hV⟩
  have RV : Hid (V.rowIs p 92 10 (rowN (poL 1 s a k n))) := by show V.rowIs _ _ _ _; rw [hV]; exact rowN_put hr 0 _ (by simp [poL])
  have OV : Hid (LnOnly p W V) := by show LnOnly _ _ _; rw [hV]; exact LnOnly.set W 0 _
  have HS := Lib.hid (OV.out.own (by omega) h)
  clear hV c0 c1 c2 c3 c4 c5 c6 c7 c8 c9 f0 f1 f2 f3 f4 f5 f6 f7 f8 f9 hr h
  obtain ⟨⟨c0, c1, c2, c3, c4, c5, c6, c7, c8, c9⟩, f0, f1, f2, f3, f4, f5, f6, f7, f8, f9⟩ := rowN10 RV.out
  go_wp2_with fail
  refine (implHeard_any s a k v _ HS.out.in_ hn).mono ?_
  rintro e V2 ⟨⟨a2, k2, rfl, hq⟩, hb⟩
  obtain ⟨X, hX⟩ : ∃ X, X = s.heard v := ⟨_, rfl⟩
  rw [← hX] at hq ⊢
  have HX := Lib.hid hX
  have RV2 := Lib.hid (nrow_below RV.out hb)
  have OV2 : Hid (LnOnly p W V2) := OV.out.trans (LnOnly.below hb)
  have HQ : Hid (NqOwn 37 W.heap.size X.wait.length a2 (Ln.fl X.wait) V2) := hq.low OV.out.size
  clear hX hq hb RV OV HS c0 c1 c2 c3 c4 c5 c6 c7 c8 c9 f0 f1 f2 f3 f4 f5 f6 f7 f8 f9
  obtain ⟨⟨c0, c1, c2, c3, c4, c5, c6, c7, c8, c9⟩, f0, f1, f2, f3, f4, f5, f6, f7, f8, f9⟩ := rowN10 RV2.out
  have hl0 := RV2.out.lt
  have R7 := Lib.hid (rowN_put (rowN_put (rowN_put (rowN_put (rowN_put (rowN_put (rowN_put RV2.out 2 (.int .i64 X.unit) (by simp [poL])) 3 (.int .i64 X.band) (by simp [poL])) 4 (.bool X.seen) (by simp [poL])) 5 (.int .i64 X.last) (by simp [poL])) 6 (.int .i64 X.next) (by simp [poL])) 7 (.slice a2 X.wait.length k2) (by simp [poL])) 8 (.int .i64 X.drops) (by simp [poL]))
  have O7 := Lib.hid (((((((LnOnly.set (p := p) V2 2 (.int .i64 X.unit)).trans (LnOnly.set _ 3 (.int .i64 X.band))).trans (LnOnly.set _ 4 (.bool X.seen))).trans (LnOnly.set _ 5 (.int .i64 X.last))).trans (LnOnly.set _ 6 (.int .i64 X.next))).trans (LnOnly.set _ 7 (.slice a2 X.wait.length k2))).trans (LnOnly.set _ 8 (.int .i64 X.drops)))
  go_wp2_with fail
  refine leaves_cons (f := 33) (args := #[.pointer (some ⟨p, 0, none⟩)]) (by simp) (by simp [go_sem]) ?_
  refine (unlock_deferred Tryz.muLib ⟨p, 0, none⟩ .returning _ ((rowN10 R7.out).1.1) ((rowN10 R7.out).2.1)).mono ?_
  rintro e u' w'' ⟨rfl, rfl, rfl⟩
  refine ⟨_, results_none rfl _ _ _, rfl, ?_⟩
  rw [← HX.out]
  exact ⟨a2, k2, rowN_put R7.out 0 (.int .i32 0) (by simp [poL]), (O7.out.trans (LnOnly.set _ 0 _)).own hpl HQ.out, OV2.out.trans (O7.out.trans (LnOnly.set _ 0 _))⟩
set_option maxHeartbeats 800000 in
theorem at64_add (g i : Nat) (x y : Int) (w : World) (hc : w.cell? ⟨g, i, none⟩ = some (.int .i64 x)) (hz : w.frozen? ⟨g, i, none⟩ = false) :
    Calls Tryz.prog 80 #[.pointer (some ⟨g, i, none⟩), .int .i64 y] w fun e w' => ∃ z, Nb z ∧ e = .returned (.int .i64 z) ∧ w' = w.setCell ⟨g, i, none⟩ (.int .i64 z) := by
  have hadd := run_call_add (P := Tryz.prog) Tryz.func99 (by kernel_rfl) (by kernel_rfl) (by kernel_rfl) .i64 (by kernel_rfl) (y := y) (s := IntKind.i64.wrap (x + y)) hc hz (by simp [go_sem])
  go_enter Tryz.func80, Tryz.ntmps80
  go_wp2
  go_ret
  exact ⟨_, nb_wrap _, rfl, rfl⟩
set_option maxHeartbeats 800000 in
theorem at64_load (g i : Nat) (x : Int) (w : World) (hc : w.cell? ⟨g, i, none⟩ = some (.int .i64 x)) :
    Calls Tryz.prog 29 #[.pointer (some ⟨g, i, none⟩)] w fun e w' => e = .returned (.int .i64 x) ∧ w' = w := by
  have hload := run_call_load (P := Tryz.prog) Tryz.func42 (by kernel_rfl) (by kernel_rfl) (by kernel_rfl) .i64 (by kernel_rfl) hc
  go_enter Tryz.func29, Tryz.ntmps29
  go_wp2
  go_ret
  exact ⟨rfl, rfl⟩
set_option maxRecDepth 100000 in
set_option maxHeartbeats 8000000 in
theorem poAnswer_any (s : Ln.S) (a : Option Addr) (k : Nat) (n : Int) (p : Nat) (w0 W : World) (hr : W.rowIs p 92 10 (rowN (poL 0 s a k n))) (h : NqOwn 37 (p + 1) s.wait.length a (Ln.fl s.wait) W) (hn : s.wait.length ≤ 1048576) (hg : TabOk w0) (hw : Below w0.heap.size w0 W) (hp : w0.heap.size ≤ p) :
    Calls Tryz.prog 57 #[.pointer (some ⟨p, 0, none⟩)] W fun e W' => e = .returned (.string ⟨s.send.toArray⟩) ∧ (∃ n', Nb n' ∧ W'.rowIs p 92 10 (rowN (poL 0 s a k n'))) ∧ LnOnly p W W' := by
  have HG := Lib.hid hg
  have HW := Lib.hid hw
  clear hg hw
  have hpl := hr.lt
  obtain ⟨⟨c0, c1, c2, c3, c4, c5, c6, c7, c8, c9⟩, f0, f1, f2, f3, f4, f5, f6, f7, f8, f9⟩ := rowN10 hr
  go_enter_defers Tryz.func57, Tryz.ntmps57
  go_wp2_with fail
  refine (lock_free Tryz.muLib ⟨p, 0, none⟩ _ c0 f0).mono ?_
  rintro e V ⟨rfl, hV⟩
  have RV : Hid (V.rowIs p 92 10 (rowN (poL 1 s a k n))) := by show V.rowIs _ _ _ _; rw [hV]; exact rowN_put hr 0 _ (by simp [poL])
  have OV : Hid (LnOnly p W V) := by show LnOnly _ _ _; rw [hV]; exact LnOnly.set W 0 _
  have HS := Lib.hid (OV.out.own (by omega) h)
  clear hV c0 c1 c2 c3 c4 c5 c6 c7 c8 c9 f0 f1 f2 f3 f4 f5 f6 f7 f8 f9 hr h
  obtain ⟨⟨c0, c1, c2, c3, c4, c5, c6, c7, c8, c9⟩, f0, f1, f2, f3, f4, f5, f6, f7, f8, f9⟩ := rowN10 RV.out
  go_wp2_with fail
  refine (at64_add p 9 n 1 _ c9 f9).mono ?_
  rintro e V2 ⟨n2, hnb, rfl, hV2⟩
  have RV2 : Hid (V2.rowIs p 92 10 (rowN (poL 1 s a k n2))) := by show V2.rowIs _ _ _ _; rw [hV2]; exact rowN_put RV.out 9 _ (by simp [poL])
  have OV1 : Hid (LnOnly p V V2) := by show LnOnly _ _ _; rw [hV2]; exact LnOnly.set V 9 _
  have HS2 := Lib.hid (OV1.out.own (by omega) HS.out)
  have OV2 : Hid (LnOnly p W V2) := OV.out.trans OV1.out
  have HT : Hid (TabOk V2) := lntab HG.out (OV2.out.bel HW.out hp HW.out.size)
  clear hV2 RV OV OV1 HS c0 c1 c2 c3 c4 c5 c6 c7 c8 c9 f0 f1 f2 f3 f4 f5 f6 f7 f8 f9
  obtain ⟨⟨c0, c1, c2, c3, c4, c5, c6, c7, c8, c9⟩, f0, f1, f2, f3, f4, f5, f6, f7, f8, f9⟩ := rowN10 RV2.out
  go_wp2_with fail
  refine (implSend_any s a k _ HS2.out.in_ hn HT.out).mono ?_
  rintro e V3 ⟨rfl, hb⟩
  have RV3 := Lib.hid (nrow_below RV2.out hb)
  have OV3 : Hid (LnOnly p W V3) := OV2.out.trans (LnOnly.below hb)
  clear hb RV2 OV2 HT HS2 c0 c1 c2 c3 c4 c5 c6 c7 c8 c9 f0 f1 f2 f3 f4 f5 f6 f7 f8 f9
  go_wp2_with fail
  refine leaves_cons (f := 33) (args := #[.pointer (some ⟨p, 0, none⟩)]) (by simp) (by simp [go_sem]) ?_
  refine (unlock_deferred Tryz.muLib ⟨p, 0, none⟩ .returning _ ((rowN10 RV3.out).1.1) ((rowN10 RV3.out).2.1)).mono ?_
  rintro e u' w'' ⟨rfl, rfl, rfl⟩
  exact ⟨_, results_tmp rfl _ _ _, rfl, ⟨n2, hnb, rowN_put RV3.out 0 (.int .i32 0) (by simp [poL])⟩, OV3.out.trans (LnOnly.set _ 0 _)⟩
set_option maxRecDepth 100000 in
set_option maxHeartbeats 8000000 in
theorem poStation_any (s : Ln.S) (a : Option Addr) (k : Nat) (n : Int) (p : Nat) (w : World) (hr0 : w.rowIs p 92 10 (rowN (poL 0 s a k n))) :
    Calls Tryz.prog 18 #[.pointer (some ⟨p, 0, none⟩)] w fun e W' => e = .returned (stV s a k) ∧ LnOnly p w W' := by
  obtain ⟨W, hW⟩ : ∃ W, W = w.alloc stZO := ⟨_, rfl⟩
  have hpw := hr0.lt
  have hr : W.rowIs p 92 10 (rowN (poL 0 s a k n)) := by rw [hW]; exact nrow_below hr0 (nbel_alloc _ _)
  have HZ : Hid (W.rowIs w.heap.size 28 7 (rowN stZ)) := by show W.rowIs _ _ _ _; rw [hW]; exact rowN_alloc w stZ _
  have OW : Hid (LnOnly p w W) := by show LnOnly _ _ _; rw [hW]; exact LnOnly.below (nbel_alloc _ _)
  have HW := Lib.hid hW
  clear hW hr0
  obtain ⟨⟨c0, c1, c2, c3, c4, c5, c6, c7, c8, c9⟩, f0, f1, f2, f3, f4, f5, f6, f7, f8, f9⟩ := rowN10 hr
  rw [HW.out] at c0 f0
  go_enter_defers Tryz.func18, Tryz.ntmps18
  go_wp2_with fail
  refine (lock_free Tryz.muLib ⟨p, 0, none⟩ _ c0 f0).mono ?_
  rintro e V ⟨rfl, hV⟩
  rw [← HW.out] at hV
  have RV : Hid (V.rowIs p 92 10 (rowN (poL 1 s a k n))) := by show V.rowIs _ _ _ _; rw [hV]; exact rowN_put hr 0 _ (by simp [poL])
  have OV1 : Hid (LnOnly p W V) := by show LnOnly _ _ _; rw [hV]; exact LnOnly.set W 0 _
  have ZV := Lib.hid (OV1.out.row (by omega) HZ.out)
  have OV : Hid (LnOnly p w V) := OW.out.trans OV1.out
  clear hV c0 c1 c2 c3 c4 c5 c6 c7 c8 c9 f0 f1 f2 f3 f4 f5 f6 f7 f8 f9 hr HZ OW OV1 HW
  obtain ⟨⟨c0, c1, c2, c3, c4, c5, c6, c7, c8, c9⟩, f0, f1, f2, f3, f4, f5, f6, f7, f8, f9⟩ := rowN10 RV.out
  obtain ⟨⟨y0, y1, y2, y3, y4, y5, y6⟩, g0, g1, g2, g3, g4, g5, g6⟩ := rowN7 ZV.out
  have hl1 := ZV.out.lt
  have hl2 := RV.out.lt
  have R7 := Lib.hid (lput7 ZV.out rfl (.int .i64 s.unit) (.int .i64 s.band) (.bool s.seen) (.int .i64 s.last) (.int .i64 s.next) (.slice a s.wait.length k) (.int .i64 s.drops))
  have B7 : Hid (Below w.heap.size V (((((((V.setCell ⟨w.heap.size, 0, none⟩ (.int .i64 s.unit)).setCell ⟨w.heap.size, 1, none⟩ (.int .i64 s.band)).setCell ⟨w.heap.size, 2, none⟩ (.bool s.seen)).setCell ⟨w.heap.size, 3, none⟩ (.int .i64 s.last)).setCell ⟨w.heap.size, 4, none⟩ (.int .i64 s.next)).setCell ⟨w.heap.size, 5, none⟩ (.slice a s.wait.length k)).setCell ⟨w.heap.size, 6, none⟩ (.int .i64 s.drops))) := lbel7 (Below.refl _ _) (Nat.le_refl _) (.int .i64 s.unit) (.int .i64 s.band) (.bool s.seen) (.int .i64 s.last) (.int .i64 s.next) (.slice a s.wait.length k) (.int .i64 s.drops)
  have P7 : Hid ((((((((V.setCell ⟨w.heap.size, 0, none⟩ (.int .i64 s.unit)).setCell ⟨w.heap.size, 1, none⟩ (.int .i64 s.band)).setCell ⟨w.heap.size, 2, none⟩ (.bool s.seen)).setCell ⟨w.heap.size, 3, none⟩ (.int .i64 s.last)).setCell ⟨w.heap.size, 4, none⟩ (.int .i64 s.next)).setCell ⟨w.heap.size, 5, none⟩ (.slice a s.wait.length k)).setCell ⟨w.heap.size, 6, none⟩ (.int .i64 s.drops)).rowIs p 92 10 (rowN (poL 1 s a k n))) := RV.out.of_block (lblk7 (by omega) (.int .i64 s.unit) (.int .i64 s.band) (.bool s.seen) (.int .i64 s.last) (.int .i64 s.next) (.slice a s.wait.length k) (.int .i64 s.drops))
  go_wp2_with fail
  refine leaves_cons (f := 33) (args := #[.pointer (some ⟨p, 0, none⟩)]) (by simp) (by simp [go_sem]) ?_
  refine (unlock_deferred Tryz.muLib ⟨p, 0, none⟩ .returning _ ((rowN10 P7.out).1.1) ((rowN10 P7.out).2.1)).mono ?_
  rintro e u' w'' ⟨rfl, rfl, rfl⟩
  have R8 := Lib.hid ((LnOnly.set (p := p) _ 0 (.int .i32 0)).row (by omega) R7.out)
  have OF := Lib.hid (LnOnly.trans (p := p) ⟨B7.out.os.trans OV.out.os, B7.out.tape.trans OV.out.tape, B7.out.output.trans OV.out.output, Nat.le_trans OV.out.size B7.out.size, fun q hq hl => (lblk7 (by omega) _ _ _ _ _ _ _).trans (OV.out.blk q hq hl)⟩ (LnOnly.set _ 0 (.int .i32 0)))
  refine ⟨stV s a k, ?_, rfl, OF.out⟩
  clear OF P7 B7 R7 RV ZV OV y0 y1 y2 y3 y4 y5 y6 g0 g1 g2 g3 g4 g5 g6 c0 c1 c2 c3 c4 c5 c6 c7 c8 c9 f0 f1 f2 f3 f4 f5 f6 f7 f8 f9
  obtain ⟨⟨u0, u1, u2, u3, u4, u5, u6⟩, _⟩ := rowN7 R8.out
  simp only [results, Tryz.results18]
  simp [go_sem, u0, u1, u2, u3, u4, u5, u6, stV]
end Go.Proofs.YtdlojhncbgfjbaaGreatDoor
namespace Go.Proofs.YtdlojhncbgfjbaaGreatDoor
open Go.RowKit Go.Deep

/-- What is asked of the library's variables. -/
structure LnG (w : World) : Prop where
  syn : ∃ te pe, w.cell? ⟨4, 0, none⟩ = some (.iface te pe)
  rng : ∃ te pe, w.cell? ⟨5, 0, none⟩ = some (.iface te pe)
  tab : TabOk w
  typ : Et w
theorem LnG.below {w w' : World} (h : LnG w) (hb : Below w.heap.size w w') : LnG w' where
  syn := h.syn.imp fun _ k => k.imp fun _ k => (hb.cell (World.block_lt_of_cell? _ _ k)).trans k
  rng := h.rng.imp fun _ k => k.imp fun _ k => (hb.cell (World.block_lt_of_cell? _ _ k)).trans k
  tab := lntab h.tab hb
  typ := h.typ.below hb
/-- What ParseInt tells of a text. -/
def PiEnd (l : List UInt8) (e : Ending) : Prop := (∃ v : Int, Lib.parseIntB 64 l = .ok v ∧ -9223372036854775808 ≤ v ∧ v ≤ 9223372036854775807 ∧ e = .returned (.tuple #[.int .i64 v, .nilIface])) ∨ ((∀ v, Lib.parseIntB 64 l ≠ .ok v) ∧ ∃ (v : Int) (t : TypeId) (p : Value), e = .returned (.tuple #[.int .i64 v, .iface t p]))
theorem parse_any (s : ByteArray) (hs : s.size ≤ 20000) (w : World) (h : LnG w) :
    Calls Tryz.prog 97 #[.string s, .int .i64 10, .int .i64 64] w fun e w' => PiEnd s.data.toList e ∧ Below w.heap.size w w' := by
  obtain ⟨te, pe, hsy⟩ := h.syn
  obtain ⟨te', pe', hrg⟩ := h.rng
  have h1 : s.size ≤ 9223372036854775806 := by omega
  have h2 : s.size ≤ 281474976710656 := by omega
  cases hp : Lib.parseIntB 64 s.data.toList with
  | ok v =>
    have hv := Lib.parseIntB_bounds hp
    refine (Tryz.strconv_ParseInt_10_at64_ok s h1 v hp w).mono ?_
    rintro e w1 ⟨rfl, hw⟩
    refine ⟨Or.inl ⟨v, hp, by simp at hv; omega, by simp at hv; omega, rfl⟩, ?_⟩
    rcases hw with rfl | ⟨t, rfl⟩
    · exact Below.refl _ _
    · exact Lib.bytesWorld_below _ _ _
  | «syntax» =>
    refine (Tryz.strconv_ParseInt_10_at64_syntax s h2 hp _ w hsy (Or.inr ⟨_, _, rfl⟩)).mono ?_
    rintro e w1 ⟨N, rfl, _, _, hb⟩
    exact ⟨Or.inr ⟨fun v k => (by rw [hp] at k; cases k), _, _, _, rfl⟩, hb⟩
  | range =>
    refine (Tryz.strconv_ParseInt_10_at64_range s h2 hp _ w hrg (Or.inr ⟨_, _, rfl⟩)).mono ?_
    rintro e w1 ⟨N, rfl, _, _, hb⟩
    exact ⟨Or.inr ⟨fun v k => (by rw [hp] at k; cases k), _, _, _, rfl⟩, hb⟩
/-- What noteOf tells. -/
def NoEnd (u : Int) (o : Fr.Out) (e : Ending) : Prop := ∃ (v : Int) (b : Bool), e = .returned (.tuple #[.agg #[.int .i64 o.s, .int .i64 v], .bool b]) ∧ (b = true → Ln.noteOf u o = some (o.s, v)) ∧ (b = false → Ln.noteOf u o = none)
theorem noteOf_some {u : Int} {o : Fr.Out} {v : Int} (h1 : -1000000 ≤ v) (h2 : v ≤ 1000000) (hu : o.u = u) (hk : o.k = 3) (hb : o.b = Lib.itoa v) : Ln.noteOf u o = some (o.s, v) := by
  unfold Ln.noteOf
  have e : M.sval o.b = v := by rw [hb, M.sval_itoa]
  rw [e, if_pos ⟨hu, hk, hb.symm, h1, h2⟩]
theorem noteOf_none {u : Int} {o : Fr.Out} (h : ∀ v, -1000000 ≤ v → v ≤ 1000000 → o.u = u → o.k = 3 → o.b = Lib.itoa v → False) : Ln.noteOf u o = none := by
  unfold Ln.noteOf
  exact if_neg (fun ⟨a, b, c, d, e⟩ => h _ d e a b c.symm)
/-- A frame's value. -/
abbrev foV (o : Fr.Out) : Value := .agg #[.int .i64 o.u, .int .i64 o.k, .int .i64 o.s, .string ⟨o.b.toArray⟩]
set_option maxRecDepth 100000 in
set_option maxHeartbeats 8000000 in
theorem noteOf_any (u : Int) (o : Fr.Out) (ho : o.b.length ≤ 64) (w : World) (hg : LnG w) :
    Calls Tryz.prog 78 #[foV o, .int .i64 u] w fun e w' => NoEnd u o e ∧ Below w.heap.size w w' := by
  obtain ⟨W, hW⟩ : ∃ W, W = (w.alloc (.cells #[.int .i64 o.u, .int .i64 o.k, .int .i64 o.s, .string ⟨o.b.toArray⟩] 70)).alloc (.cells #[.int .i64 0, .int .i64 0] 37) := ⟨_, rfl⟩
  have HB : Hid (Below w.heap.size w W) := by show Below _ _ _; rw [hW]; exact ((Below.refl _ _).alloc (Nat.le_refl _) _).alloc (by simp) _
  have HX : Hid (W.rowIs w.heap.size 70 4 (rowN [.int .i64 o.u, .int .i64 o.k, .int .i64 o.s, .string ⟨o.b.toArray⟩])) := by show W.rowIs _ _ _ _; rw [hW]; exact nrow_below (rowN_alloc w _ _) (nbel_alloc _ _)
  have HY : Hid (W.rowIs (w.heap.size + 1) 37 2 (rowN [.int .i64 0, .int .i64 0])) := by show W.rowIs _ _ _ _; rw [hW]; exact rowN_alloc' (by simp) _ _
  have HG := Lib.hid hg
  have HO := Lib.hid ho
  have HW := Lib.hid hW
  clear hW hg ho
  go_enter Tryz.func78, Tryz.ntmps78
  go_wp2_with fail
  rw [← HW.out]
  clear HW
  refine (parse_any ⟨o.b.toArray⟩ (by have := HO.out; show o.b.toArray.size ≤ 20000; simp; omega) _ (HG.out.below HB.out)).mono ?_
  rintro e w1 ⟨hE, hb⟩
  replace HX := Lib.hid (nrow_below HX.out hb)
  replace HY := Lib.hid (nrow_below HY.out hb)
  replace HB : Hid (Below w.heap.size w w1) := HB.out.trans (hb.mono HB.out.size)
  clear hb
  have hE' : PiEnd o.b e := hE
  clear hE
  obtain ⟨⟨x0, x1, x2, x3⟩, _⟩ := rowN4 HX.out
  rcases hE' with ⟨v, hpv, hv1, hv2, rfl⟩ | ⟨hno, v, te, pe, rfl⟩
  · obtain ⟨V, hV⟩ : ∃ V, V = w1.alloc (.cells #[.int .i64 o.s, .int .i64 v] 37) := ⟨_, rfl⟩
    have hbV : Below w1.heap.size w1 V := by rw [hV]; exact nbel_alloc _ _
    have HXV := Lib.hid (nrow_below HX.out hbV)
    have HYV := Lib.hid (nrow_below HY.out hbV)
    have HZV : Hid (V.rowIs w1.heap.size 37 2 (rowN [.int .i64 o.s, .int .i64 v])) := by show V.rowIs _ _ _ _; rw [hV]; exact rowN_alloc _ _ _
    have HBV : Hid (Below w.heap.size w V) := HB.out.trans (hbV.mono HB.out.size)
    have hsz1 : w.heap.size + 1 < w1.heap.size := HY.out.lt
    obtain ⟨X, hXe⟩ : ∃ X, X = w1.heap.size := ⟨_, rfl⟩
    have HV := Lib.hid hV
    have HXE := Lib.hid hXe
    rw [← hXe] at HZV hsz1
    have HPV := Lib.hid hpv
    clear hV hbV HX HY HB hpv hXe
    go_wp2_with fail
    rw [← HV.out, ← HXE.out]
    clear HV HXE x0 x1 x2 x3
    refine wp_region_held_drew (S := fun V => V.rowIs w.heap.size 70 4 (rowN [.int .i64 o.u, .int .i64 o.k, .int .i64 o.s, .string ⟨o.b.toArray⟩]) ∧ V.rowIs X 37 2 (rowN [.int .i64 o.s, .int .i64 v]) ∧ (∃ a b, V.rowIs (w.heap.size + 1) 37 2 (rowN [a, b])) ∧ Below w.heap.size w V) (by kernel_rfl) ⟨HXV.out.of_block rfl, HZV.out.of_block rfl, ⟨_, _, HYV.out.of_block rfl⟩, HBV.out.drew⟩ (fun hHeld => ?_)
    obtain ⟨Z, hZ⟩ : ∃ Z, Z = V.drew := ⟨_, rfl⟩
    rw [← hZ] at hHeld ⊢
    clear hZ HXV HYV HZV HBV
    refine take_do (i := 0) (v := (.agg #[.int .i64 o.s, .int .i64 v])) rfl (by kernel_rfl) (by kernel_rfl) (by kernel_rfl) (fun _ _ _ h => h) (by rfl) ?_ (by assumption) ?_
    · intro w hSw
      obtain ⟨⟨q0, q1⟩, _⟩ := rowN2 hSw.2.1
      go_simp
    simp only [Act.put, List.setIfInBounds_toArray, List.set_cons_zero, List.set_cons_succ]
    refine take_do (i := 1) (v := (.nilIface)) rfl (by kernel_rfl) (by kernel_rfl) (by kernel_rfl) (fun _ _ _ h => h) (by rfl) ?_ (by assumption) ?_
    · intro w hSw
      go_simp
    simp only [Act.put, List.setIfInBounds_toArray, List.set_cons_zero, List.set_cons_succ]
    refine take_do (i := 2) (v := (.bool true)) rfl (by kernel_rfl) (by kernel_rfl) (by kernel_rfl) (fun _ _ _ h => h) (by rfl) ?_ (by assumption) ?_
    · intro w hSw
      go_simp
    simp only [Act.put, List.setIfInBounds_toArray, List.set_cons_zero, List.set_cons_succ]
    refine take_do (i := 3) (v := (.bool true)) rfl (by kernel_rfl) (by kernel_rfl) (by kernel_rfl) (fun _ _ _ h => h) (by rfl) ?_ (by assumption) ?_
    · intro w hSw
      go_simp
    simp only [Act.put, List.setIfInBounds_toArray, List.set_cons_zero, List.set_cons_succ]
    refine take_do (i := 4) (v := (.int .i64 v)) rfl (by kernel_rfl) (by kernel_rfl) (by kernel_rfl) (fun _ _ _ h => h) (by rfl) ?_ (by assumption) ?_
    · intro w hSw
      go_simp
    simp only [Act.put, List.setIfInBounds_toArray, List.set_cons_zero, List.set_cons_succ]
    refine take_call (i := 5) rfl (by kernel_rfl) (fun K2 hK => ?_)
    go_simp
    refine (labout_any v 1000000 (by omega) (by omega) _).mono ?_
    rintro e Z1 ⟨rfl, hz1⟩
    rw [hz1]
    clear hz1 Z1
    by_cases cv : -1000000 ≤ v ∧ v ≤ 1000000
    · rw [decide_eq_true cv]
      go_wp2_with fail
      refine hK.out _ _ hHeld (fun hHeld2 => ?_)
      clear hK hHeld
      have hHeld := hHeld2
      clear hHeld2
      refine take_do (i := 6) (v := (.bool true)) rfl (by kernel_rfl) (by kernel_rfl) (by kernel_rfl) (fun _ _ _ h => h) (by rfl) ?_ (by assumption) ?_
      · intro w hSw
        go_simp
      simp only [Act.put, List.setIfInBounds_toArray, List.set_cons_zero, List.set_cons_succ]
      refine take_do (i := 7) (v := (.bool true)) rfl (by kernel_rfl) (by kernel_rfl) (by kernel_rfl) (fun _ _ _ h => h) (by rfl) ?_ (by assumption) ?_
      · intro w hSw
        go_simp
      simp only [Act.put, List.setIfInBounds_toArray, List.set_cons_zero, List.set_cons_succ]
      refine take_do (i := 8) (v := (foV o)) rfl (by kernel_rfl) (by kernel_rfl) (by kernel_rfl) (fun _ _ _ h => h) (by rfl) ?_ (by assumption) ?_
      · intro w hSw
        obtain ⟨⟨q0, q1, q2, q3⟩, _⟩ := rowN4 hSw.1
        go_simp
      simp only [Act.put, List.setIfInBounds_toArray, List.set_cons_zero, List.set_cons_succ]
      refine take_do (i := 9) (v := (.agg #[.int .i64 o.s, .int .i64 v])) rfl (by kernel_rfl) (by kernel_rfl) (by kernel_rfl) (fun _ _ _ h => h) (by rfl) ?_ (by assumption) ?_
      · intro w hSw
        obtain ⟨⟨q0, q1⟩, _⟩ := rowN2 hSw.2.1
        go_simp
      simp only [Act.put, List.setIfInBounds_toArray, List.set_cons_zero, List.set_cons_succ]
      refine take_do (i := 10) (v := (.int .i64 u)) rfl (by kernel_rfl) (by kernel_rfl) (by kernel_rfl) (fun _ _ _ h => h) (by rfl) ?_ (by assumption) ?_
      · intro w hSw
        go_simp
      simp only [Act.put, List.setIfInBounds_toArray, List.set_cons_zero, List.set_cons_succ]
      refine take_call (i := 11) rfl (by kernel_rfl) (fun K2 hK => ?_)
      go_simp
      refine (frameOf_any o.s v u _ (lntab HG.out.tab hHeld.2.2.2) hv1 hv2).mono ?_
      rintro e Z1 ⟨rfl, hb⟩
      go_wp2_with fail
      refine hK.out _ _ ⟨nrow_below hHeld.1 hb, nrow_below hHeld.2.1 hb, (by obtain ⟨ya, yb, hy⟩ := hHeld.2.2.1; exact ⟨ya, yb, nrow_below hy hb⟩), hHeld.2.2.2.trans (hb.mono hHeld.2.2.2.size)⟩ (fun hHeld2 => ?_)
      clear hK hHeld hb
      have hHeld := hHeld2
      clear hHeld2
      obtain ⟨bb, hbb⟩ : ∃ bb : Bool, bb = true ↔ (o.u = u ∧ o.k = 3 ∧ o.b = Lib.itoa v) := by
        by_cases h : (o.u = u ∧ o.k = 3 ∧ o.b = Lib.itoa v)
        · exact ⟨true, by simp [h]⟩
        · exact ⟨false, by simp [h]⟩
      have HBB := Lib.hid hbb
      refine take_do (i := 12) (v := (.bool bb)) rfl (by kernel_rfl) (by kernel_rfl) (by kernel_rfl) (fun _ _ _ h => h) (by rfl) ?_ (by assumption) ?_
      · intro w hSw
        go_simp
        have h3 := HBB.out
        have ff : ¬ (o.u = u ∧ o.k = 3 ∧ o.b = Lib.itoa v) → bb = false := fun h => by
          cases hb : bb with
          | false => rfl
          | true => exact absurd (h3.1 hb) h
        by_cases a1 : o.u = u
        · rw [if_pos a1]
          by_cases a2 : o.k = 3
          · rw [if_pos a2]
            by_cases a3 : o.b = Lib.itoa v
            · rw [if_pos a3, h3.2 ⟨a1, a2, a3⟩]
            · rw [if_neg a3, ff (fun h => a3 h.2.2)]
          · rw [if_neg a2, ff (fun h => a2 h.2.1)]
        · rw [if_neg a1, ff (fun h => a1 h.1)]
      simp only [Act.put, List.setIfInBounds_toArray, List.set_cons_zero, List.set_cons_succ]
      refine take_do (i := 13) (v := (.bool bb)) rfl (by kernel_rfl) (by kernel_rfl) (by kernel_rfl) (fun _ _ _ h => h) (by rfl) ?_ (by assumption) ?_
      · intro w hSw
        go_simp
      simp only [Act.put, List.setIfInBounds_toArray, List.set_cons_zero, List.set_cons_succ]
      obtain ⟨ya, yb, HYR⟩ := hHeld.2.2.1
      have HYZ := Lib.hid HYR
      obtain ⟨⟨y0, y1⟩, g0, g1⟩ := rowN2 HYR
      have hl1 := HYR.lt
      have zr := Lib.hid (rowN_put (rowN_put HYR 0 (.int .i64 o.s) (by simp)) 1 (.int .i64 v) (by simp))
      have zb := Lib.hid ((hHeld.2.2.2.setCell (p := ⟨w.heap.size + 1, 0, none⟩) (by show w.heap.size ≤ w.heap.size + 1; omega) (.int .i64 o.s)).setCell (p := ⟨w.heap.size + 1, 1, none⟩) (by show w.heap.size ≤ w.heap.size + 1; omega) (.int .i64 v))
      have zx := Lib.hid (nrow_set (nrow_set hHeld.1 (p := ⟨w.heap.size + 1, 0, none⟩) (by show w.heap.size ≠ w.heap.size + 1; omega) (.int .i64 o.s)) (p := ⟨w.heap.size + 1, 1, none⟩) (by show w.heap.size ≠ w.heap.size + 1; omega) (.int .i64 v))
      have zn := Lib.hid (nrow_set (nrow_set hHeld.2.1 (p := ⟨w.heap.size + 1, 0, none⟩) (by show X ≠ w.heap.size + 1; omega) (.int .i64 o.s)) (p := ⟨w.heap.size + 1, 1, none⟩) (by show X ≠ w.heap.size + 1; omega) (.int .i64 v))
      clear HYR
      refine take_call (i := 14) rfl (by kernel_rfl) (fun K2 hK => ?_)
      go_simp
      refine hK.out _ _ ⟨zx.out, zn.out, ⟨_, _, zr.out⟩, zb.out⟩ (fun hHeld2 => ?_)
      clear hK hHeld
      have hHeld := hHeld2
      clear hHeld2
      refine take_do (i := 15) (v := (.bool bb)) rfl (by kernel_rfl) (by kernel_rfl) (by kernel_rfl) (fun _ _ _ h => h) (by rfl) ?_ (by assumption) ?_
      · intro w hSw
        go_simp
      simp only [Act.put, List.setIfInBounds_toArray, List.set_cons_zero, List.set_cons_succ]
      refine wpAnyH_done (by kernel_rfl) ?_ _
      go_wp2_with fail
      refine bodyPost_ret (v := .tuple #[.agg #[.int .i64 o.s, .int .i64 v], .bool bb]) ?_ rfl ⟨⟨v, bb, rfl, fun h => (by obtain ⟨h1, h2, h3⟩ := HBB.out.1 h; exact noteOf_some cv.1 cv.2 h1 h2 h3), fun h => noteOf_none (fun x h1 h2 h3 h4 h5 => by
        have e1 := M.parse_itoa x (by omega) (by omega)
        rw [← h5, HPV.out] at e1
        have e2 : v = x := by injection e1
        have := HBB.out.2 ⟨h3, h4, by rw [e2]; exact h5⟩
        rw [h] at this; cases this)⟩, zb.out⟩
      obtain ⟨⟨u0, u1⟩, _⟩ := rowN2 zr.out
      simp only [results, Tryz.results78]
      simp [go_sem, u0, u1]
    · have HNO : Hid (Ln.noteOf u o = none) := noteOf_none (fun x h1 h2 _ _ hb => by
        have e1 := M.parse_itoa x (by omega) (by omega)
        rw [← hb, HPV.out] at e1
        have e2 : v = x := by injection e1
        exact cv ⟨by omega, by omega⟩)
      rw [decide_eq_false cv]
      go_wp2_with fail
      refine hK.out _ _ hHeld (fun hHeld2 => ?_)
      clear hK hHeld
      have hHeld := hHeld2
      clear hHeld2
      refine take_do (i := 6) (v := (.bool false)) rfl (by kernel_rfl) (by kernel_rfl) (by kernel_rfl) (fun _ _ _ h => h) (by rfl) ?_ (by assumption) ?_
      · intro w hSw
        go_simp
      simp only [Act.put, List.setIfInBounds_toArray, List.set_cons_zero, List.set_cons_succ]
      refine take_do (i := 7) (v := (.bool false)) rfl (by kernel_rfl) (by kernel_rfl) (by kernel_rfl) (fun _ _ _ h => h) (by rfl) ?_ (by assumption) ?_
      · intro w hSw
        go_simp
      simp only [Act.put, List.setIfInBounds_toArray, List.set_cons_zero, List.set_cons_succ]
      refine take_skip (i := 8) rfl (by kernel_rfl) (by kernel_rfl) (by kernel_rfl) (fun _ _ _ h => h) (by rfl) (by assumption) ?_
      simp only [Act.put, List.setIfInBounds_toArray, List.set_cons_zero, List.set_cons_succ]
      refine take_skip (i := 9) rfl (by kernel_rfl) (by kernel_rfl) (by kernel_rfl) (fun _ _ _ h => h) (by rfl) (by assumption) ?_
      simp only [Act.put, List.setIfInBounds_toArray, List.set_cons_zero, List.set_cons_succ]
      refine take_skip (i := 10) rfl (by kernel_rfl) (by kernel_rfl) (by kernel_rfl) (fun _ _ _ h => h) (by rfl) (by assumption) ?_
      simp only [Act.put, List.setIfInBounds_toArray, List.set_cons_zero, List.set_cons_succ]
      refine take_skip (i := 11) rfl (by kernel_rfl) (by kernel_rfl) (by kernel_rfl) (fun _ _ _ h => h) (by rfl) (by assumption) ?_
      simp only [Act.put, List.setIfInBounds_toArray, List.set_cons_zero, List.set_cons_succ]
      refine take_skip (i := 12) rfl (by kernel_rfl) (by kernel_rfl) (by kernel_rfl) (fun _ _ _ h => h) (by rfl) (by assumption) ?_
      simp only [Act.put, List.setIfInBounds_toArray, List.set_cons_zero, List.set_cons_succ]
      refine take_do (i := 13) (v := (.bool false)) rfl (by kernel_rfl) (by kernel_rfl) (by kernel_rfl) (fun _ _ _ h => h) (by rfl) ?_ (by assumption) ?_
      · intro w hSw
        go_simp
      simp only [Act.put, List.setIfInBounds_toArray, List.set_cons_zero, List.set_cons_succ]
      obtain ⟨ya, yb, HYR⟩ := hHeld.2.2.1
      have HYZ := Lib.hid HYR
      obtain ⟨⟨y0, y1⟩, g0, g1⟩ := rowN2 HYR
      have hl1 := HYR.lt
      have zr := Lib.hid (rowN_put (rowN_put HYR 0 (.int .i64 o.s) (by simp)) 1 (.int .i64 v) (by simp))
      have zb := Lib.hid ((hHeld.2.2.2.setCell (p := ⟨w.heap.size + 1, 0, none⟩) (by show w.heap.size ≤ w.heap.size + 1; omega) (.int .i64 o.s)).setCell (p := ⟨w.heap.size + 1, 1, none⟩) (by show w.heap.size ≤ w.heap.size + 1; omega) (.int .i64 v))
      have zx := Lib.hid (nrow_set (nrow_set hHeld.1 (p := ⟨w.heap.size + 1, 0, none⟩) (by show w.heap.size ≠ w.heap.size + 1; omega) (.int .i64 o.s)) (p := ⟨w.heap.size + 1, 1, none⟩) (by show w.heap.size ≠ w.heap.size + 1; omega) (.int .i64 v))
      have zn := Lib.hid (nrow_set (nrow_set hHeld.2.1 (p := ⟨w.heap.size + 1, 0, none⟩) (by show X ≠ w.heap.size + 1; omega) (.int .i64 o.s)) (p := ⟨w.heap.size + 1, 1, none⟩) (by show X ≠ w.heap.size + 1; omega) (.int .i64 v))
      clear HYR
      refine take_call (i := 14) rfl (by kernel_rfl) (fun K2 hK => ?_)
      go_simp
      refine hK.out _ _ ⟨zx.out, zn.out, ⟨_, _, zr.out⟩, zb.out⟩ (fun hHeld2 => ?_)
      clear hK hHeld
      have hHeld := hHeld2
      clear hHeld2
      refine take_do (i := 15) (v := (.bool false)) rfl (by kernel_rfl) (by kernel_rfl) (by kernel_rfl) (fun _ _ _ h => h) (by rfl) ?_ (by assumption) ?_
      · intro w hSw
        go_simp
      simp only [Act.put, List.setIfInBounds_toArray, List.set_cons_zero, List.set_cons_succ]
      refine wpAnyH_done (by kernel_rfl) ?_ _
      go_wp2_with fail
      refine bodyPost_ret (v := .tuple #[.agg #[.int .i64 o.s, .int .i64 v], .bool false]) ?_ rfl ⟨⟨v, false, rfl, (fun h => by cases h), fun _ => HNO.out⟩, zb.out⟩
      obtain ⟨⟨u0, u1⟩, _⟩ := rowN2 zr.out
      simp only [results, Tryz.results78]
      simp [go_sem, u0, u1]
  · have HNO : Hid (Ln.noteOf u o = none) := noteOf_none (fun x h1 h2 _ _ hb => hno x (by rw [hb]; exact M.parse_itoa x (by omega) (by omega)))
    obtain ⟨V, hV⟩ : ∃ V, V = w1.alloc (.cells #[.int .i64 o.s, .int .i64 v] 37) := ⟨_, rfl⟩
    have hbV : Below w1.heap.size w1 V := by rw [hV]; exact nbel_alloc _ _
    have HXV := Lib.hid (nrow_below HX.out hbV)
    have HYV := Lib.hid (nrow_below HY.out hbV)
    have HZV : Hid (V.rowIs w1.heap.size 37 2 (rowN [.int .i64 o.s, .int .i64 v])) := by show V.rowIs _ _ _ _; rw [hV]; exact rowN_alloc _ _ _
    have HBV : Hid (Below w.heap.size w V) := HB.out.trans (hbV.mono HB.out.size)
    have hsz1 : w.heap.size + 1 < w1.heap.size := HY.out.lt
    obtain ⟨X, hXe⟩ : ∃ X, X = w1.heap.size := ⟨_, rfl⟩
    have HV := Lib.hid hV
    have HXE := Lib.hid hXe
    rw [← hXe] at HZV hsz1
    clear hV hbV HX HY HB hno hXe
    go_wp2_with fail
    rw [← HV.out, ← HXE.out]
    clear HV HXE x0 x1 x2 x3
    refine wp_region_held_drew (S := fun V => V.rowIs w.heap.size 70 4 (rowN [.int .i64 o.u, .int .i64 o.k, .int .i64 o.s, .string ⟨o.b.toArray⟩]) ∧ V.rowIs X 37 2 (rowN [.int .i64 o.s, .int .i64 v]) ∧ (∃ a b, V.rowIs (w.heap.size + 1) 37 2 (rowN [a, b])) ∧ Below w.heap.size w V) (by kernel_rfl) ⟨HXV.out.of_block rfl, HZV.out.of_block rfl, ⟨_, _, HYV.out.of_block rfl⟩, HBV.out.drew⟩ (fun hHeld => ?_)
    obtain ⟨Z, hZ⟩ : ∃ Z, Z = V.drew := ⟨_, rfl⟩
    rw [← hZ] at hHeld ⊢
    clear hZ HXV HYV HZV HBV
    refine take_do (i := 0) (v := (.agg #[.int .i64 o.s, .int .i64 v])) rfl (by kernel_rfl) (by kernel_rfl) (by kernel_rfl) (fun _ _ _ h => h) (by rfl) ?_ (by assumption) ?_
    · intro w hSw
      obtain ⟨⟨q0, q1⟩, _⟩ := rowN2 hSw.2.1
      go_simp
    simp only [Act.put, List.setIfInBounds_toArray, List.set_cons_zero, List.set_cons_succ]
    refine take_do (i := 1) (v := (.iface te pe)) rfl (by kernel_rfl) (by kernel_rfl) (by kernel_rfl) (fun _ _ _ h => h) (by rfl) ?_ (by assumption) ?_
    · intro w hSw
      go_simp
    simp only [Act.put, List.setIfInBounds_toArray, List.set_cons_zero, List.set_cons_succ]
    refine take_do (i := 2) (v := (.bool false)) rfl (by kernel_rfl) (by kernel_rfl) (by kernel_rfl) (fun _ _ _ h => h) (by rfl) ?_ (by assumption) ?_
    · intro w hSw
      go_simp
    simp only [Act.put, List.setIfInBounds_toArray, List.set_cons_zero, List.set_cons_succ]
    refine take_do (i := 3) (v := (.bool false)) rfl (by kernel_rfl) (by kernel_rfl) (by kernel_rfl) (fun _ _ _ h => h) (by rfl) ?_ (by assumption) ?_
    · intro w hSw
      go_simp
    simp only [Act.put, List.setIfInBounds_toArray, List.set_cons_zero, List.set_cons_succ]
    refine take_skip (i := 4) rfl (by kernel_rfl) (by kernel_rfl) (by kernel_rfl) (fun _ _ _ h => h) (by rfl) (by assumption) ?_
    simp only [Act.put, List.setIfInBounds_toArray, List.set_cons_zero, List.set_cons_succ]
    refine take_skip (i := 5) rfl (by kernel_rfl) (by kernel_rfl) (by kernel_rfl) (fun _ _ _ h => h) (by rfl) (by assumption) ?_
    simp only [Act.put, List.setIfInBounds_toArray, List.set_cons_zero, List.set_cons_succ]
    refine take_do (i := 6) (v := (.bool false)) rfl (by kernel_rfl) (by kernel_rfl) (by kernel_rfl) (fun _ _ _ h => h) (by rfl) ?_ (by assumption) ?_
    · intro w hSw
      go_simp
    simp only [Act.put, List.setIfInBounds_toArray, List.set_cons_zero, List.set_cons_succ]
    refine take_do (i := 7) (v := (.bool false)) rfl (by kernel_rfl) (by kernel_rfl) (by kernel_rfl) (fun _ _ _ h => h) (by rfl) ?_ (by assumption) ?_
    · intro w hSw
      go_simp
    simp only [Act.put, List.setIfInBounds_toArray, List.set_cons_zero, List.set_cons_succ]
    refine take_skip (i := 8) rfl (by kernel_rfl) (by kernel_rfl) (by kernel_rfl) (fun _ _ _ h => h) (by rfl) (by assumption) ?_
    simp only [Act.put, List.setIfInBounds_toArray, List.set_cons_zero, List.set_cons_succ]
    refine take_skip (i := 9) rfl (by kernel_rfl) (by kernel_rfl) (by kernel_rfl) (fun _ _ _ h => h) (by rfl) (by assumption) ?_
    simp only [Act.put, List.setIfInBounds_toArray, List.set_cons_zero, List.set_cons_succ]
    refine take_skip (i := 10) rfl (by kernel_rfl) (by kernel_rfl) (by kernel_rfl) (fun _ _ _ h => h) (by rfl) (by assumption) ?_
    simp only [Act.put, List.setIfInBounds_toArray, List.set_cons_zero, List.set_cons_succ]
    refine take_skip (i := 11) rfl (by kernel_rfl) (by kernel_rfl) (by kernel_rfl) (fun _ _ _ h => h) (by rfl) (by assumption) ?_
    simp only [Act.put, List.setIfInBounds_toArray, List.set_cons_zero, List.set_cons_succ]
    refine take_skip (i := 12) rfl (by kernel_rfl) (by kernel_rfl) (by kernel_rfl) (fun _ _ _ h => h) (by rfl) (by assumption) ?_
    simp only [Act.put, List.setIfInBounds_toArray, List.set_cons_zero, List.set_cons_succ]
    refine take_do (i := 13) (v := (.bool false)) rfl (by kernel_rfl) (by kernel_rfl) (by kernel_rfl) (fun _ _ _ h => h) (by rfl) ?_ (by assumption) ?_
    · intro w hSw
      go_simp
    simp only [Act.put, List.setIfInBounds_toArray, List.set_cons_zero, List.set_cons_succ]
    obtain ⟨ya, yb, HYR⟩ := hHeld.2.2.1
    have HYZ := Lib.hid HYR
    obtain ⟨⟨y0, y1⟩, g0, g1⟩ := rowN2 HYR
    have hl1 := HYR.lt
    have zr := Lib.hid (rowN_put (rowN_put HYR 0 (.int .i64 o.s) (by simp)) 1 (.int .i64 v) (by simp))
    have zb := Lib.hid ((hHeld.2.2.2.setCell (p := ⟨w.heap.size + 1, 0, none⟩) (by show w.heap.size ≤ w.heap.size + 1; omega) (.int .i64 o.s)).setCell (p := ⟨w.heap.size + 1, 1, none⟩) (by show w.heap.size ≤ w.heap.size + 1; omega) (.int .i64 v))
    have zx := Lib.hid (nrow_set (nrow_set hHeld.1 (p := ⟨w.heap.size + 1, 0, none⟩) (by show w.heap.size ≠ w.heap.size + 1; omega) (.int .i64 o.s)) (p := ⟨w.heap.size + 1, 1, none⟩) (by show w.heap.size ≠ w.heap.size + 1; omega) (.int .i64 v))
    have zn := Lib.hid (nrow_set (nrow_set hHeld.2.1 (p := ⟨w.heap.size + 1, 0, none⟩) (by show X ≠ w.heap.size + 1; omega) (.int .i64 o.s)) (p := ⟨w.heap.size + 1, 1, none⟩) (by show X ≠ w.heap.size + 1; omega) (.int .i64 v))
    clear HYR
    refine take_call (i := 14) rfl (by kernel_rfl) (fun K2 hK => ?_)
    go_simp
    refine hK.out _ _ ⟨zx.out, zn.out, ⟨_, _, zr.out⟩, zb.out⟩ (fun hHeld2 => ?_)
    clear hK hHeld
    have hHeld := hHeld2
    clear hHeld2
    refine take_do (i := 15) (v := (.bool false)) rfl (by kernel_rfl) (by kernel_rfl) (by kernel_rfl) (fun _ _ _ h => h) (by rfl) ?_ (by assumption) ?_
    · intro w hSw
      go_simp
    simp only [Act.put, List.setIfInBounds_toArray, List.set_cons_zero, List.set_cons_succ]
    refine wpAnyH_done (by kernel_rfl) ?_ _
    go_wp2_with fail
    refine bodyPost_ret (v := .tuple #[.agg #[.int .i64 o.s, .int .i64 v], .bool false]) ?_ rfl ⟨⟨v, false, rfl, (fun h => by cases h), fun _ => HNO.out⟩, zb.out⟩
    obtain ⟨⟨u0, u1⟩, _⟩ := rowN2 zr.out
    simp only [results, Tryz.results78]
    simp [go_sem, u0, u1]
end Go.Proofs.YtdlojhncbgfjbaaGreatDoor
namespace Go.Proofs.YtdlojhncbgfjbaaGreatDoor
open Go.RowKit Go.Deep

theorem own_ne2 {T T' : TypeId} {B n X m : Nat} {v : Value} {xs : List Value} {G : Nat → Value} {W : World} (h : W.ownsRow B T 2 v n xs) (hx : W.rowIs X T' m G) (hT : T ≠ T') : v.ownBlock ≠ some X := by
  intro e
  rcases h.2 with ⟨rfl, _⟩ | ⟨g, cap, cur, rfl, e2, e3, e4⟩
  · cases e
  · cases e
    obtain ⟨_, q1, _⟩ := hx
    have e3' : W.heap[g]? = _ := e3
    rw [q1] at e3'
    simp at e3'
    exact hT e3'.2.symm
theorem ownR_keep {B n size : Nat} {e : TypeId} {v : Value} {xs : List Value} {W W' : World} (h : W.ownsRow B e size v n xs) (hb : ∀ k, v.ownBlock = some k → k < W.heap.size → W'.heap[k]? = W.heap[k]?) : W'.ownsRow B e size v n xs := by
  refine ⟨h.1, ?_⟩
  rcases h.2 with h2 | ⟨g, cap, cur, e1, e2, e3, e4⟩
  · exact Or.inl h2
  · refine Or.inr ⟨g, cap, cur, e1, e2, ?_, e4⟩
    rw [hb g (by rw [e1]; rfl) (by
      rcases Nat.lt_or_ge g W.heap.size with h | h
      · exact h
      · rw [Array.getElem?_eq_none h] at e3; cases e3)]
    exact e3
/-- A master in a block, its notes in memory of the call's own; what lies below, and rows of other types, stay. -/
structure MaS (p B : Nat) (r : List Value) (L : List Ln.Nt) (a : Option Addr) (k : Nat) (w W : World) : Prop where
  row : W.rowIs p 30 3 (rowN r)
  own : W.ownsRow B 37 2 (.slice a L.length k) L.length (nvs L)
  bel : Below p w W
  oth : ∀ j T n F, w.rowIs j T n F → 37 ≠ T → j ≠ p → W.rowIs j T n F
  num : p < B ∧ B ≤ W.heap.size
theorem MaS.below {p B : Nat} {r : List Value} {L : List Ln.Nt} {a : Option Addr} {k : Nat} {w W W' : World} (h : MaS p B r L a k w W) (hb : Below W.heap.size W W') : MaS p B r L a k w W' := by
  have h1 := h.num
  exact ⟨nrow_below h.row hb, ownR_keep h.own (fun q _ hq => hb.block q hq), h.bel.trans (hb.mono (by omega)), fun j T n F a b c => nrow_below (h.oth j T n F a b c) hb, h1.1, Nat.le_trans h1.2 hb.size⟩
theorem MaS.set {p B : Nat} {r : List Value} {L : List Ln.Nt} {a : Option Addr} {k : Nat} {w W : World} (h : MaS p B r L a k w W) (i : Nat) (x : Value) (hi : i < r.length) : MaS p B (r.set i x) L a k w (W.setCell ⟨p, i, none⟩ x) := by
  have h1 := h.num
  exact ⟨rowN_put h.row i x hi, ownR_keep h.own (fun q hq _ => bihs _ _ _ (by have := (h.own.lt q hq).1; omega) _ _), h.bel.setCell (p := ⟨p, i, none⟩) (Nat.le_refl _) _, fun j T n F a b c => nrow_set (h.oth j T n F a b c) (p := ⟨p, i, none⟩) c _, h1.1, by simpa using h1.2⟩
theorem MaS.push {p B : Nat} {r : List Value} {L L' : List Ln.Nt} {a a' : Option Addr} {k k' : Nat} {w W W' : World} (h : MaS p B r L a k w W) (hg : W.grownBy W' (Value.slice a L.length k).ownBlock) (hown : W'.ownsRow B 37 2 (.slice a' L'.length k') L'.length (nvs L')) : MaS p B r L' a' k' w W' := by
  have h1 := h.num
  have ob : ∀ q, (Value.slice a L.length k).ownBlock = some q → B ≤ q := fun q hq => (h.own.lt q hq).1
  refine ⟨h.row.of_block (hg.block _ h.row.lt (fun e => by have := ob _ e.symm; omega)), hown, h.bel.grown hg (by omega) (fun q hq => by have := ob q hq; omega), fun j T n F b c d => ?_, h1.1, Nat.le_trans h1.2 hg.size⟩
  have hj := h.oth j T n F b c d
  exact hj.of_block (hg.block _ hj.lt (fun e => own_ne2 h.own hj c e.symm))
theorem MaS.trans {p B : Nat} {r r' : List Value} {L L' : List Ln.Nt} {a a' : Option Addr} {k k' : Nat} {w W W' : World} (h : MaS p B r L a k w W) (h' : MaS p B r' L' a' k' W W') : MaS p B r' L' a' k' w W' :=
  ⟨h'.row, h'.own, h.bel.trans h'.bel, fun j T n F b c d => h'.oth j T n F (h.oth j T n F b c d) c d, h'.num⟩
set_option maxRecDepth 100000 in
set_option maxHeartbeats 8000000 in
theorem take_any (p B : Nat) (m : Ln.M) (a : Option Addr) (k : Nat) (q v : Int) (w : World) (hr : w.rowIs p 30 3 (rowN (maL m a k))) (hown : w.ownsRow B 37 2 (.slice a m.notes.length k) m.notes.length (nvs m.notes)) (hp : p < B) (hB : B ≤ w.heap.size) (hm : m.Mid) (hq0 : 0 ≤ q) (hq1 : q ≤ 65535) :
    Calls Tryz.prog 79 #[.pointer (some ⟨p, 0, none⟩), .agg #[.int .i64 q, .int .i64 v]] w fun e w' => e = .returned (.tuple #[]) ∧ ∃ a' k', MaS p B (maL (m.put (q, v)) a' k') (m.put (q, v)).notes a' k' w w' := by
  obtain ⟨i0, hi, hz0, hz1, hz2⟩ := info_parts linfo_note
  obtain ⟨W, hW⟩ : ∃ W, W = w.alloc (.cells #[.int .i64 q, .int .i64 v] 37) := ⟨_, rfl⟩
  have hbW : Below w.heap.size w W := by rw [hW]; exact nbel_alloc _ _
  have S0 : Hid (MaS p B (maL m a k) m.notes a k w w) := ⟨hr, hown, Below.refl _ _, fun _ _ _ _ h _ _ => h, hp, hB⟩
  have S1 := Lib.hid (S0.out.below hbW)
  have HN : Hid (W.rowIs w.heap.size 37 2 (rowN [.int .i64 q, .int .i64 v])) := by show W.rowIs _ _ _ _; rw [hW]; exact rowN_alloc w _ _
  have HW := Lib.hid hW
  obtain ⟨⟨m1, m2⟩, m3, m4, m5⟩ := hm
  have hpw : p < w.heap.size := hr.lt
  have XN0 := Lib.hid (fun q (h : (Value.slice a m.notes.length k).ownBlock = some q) => (hown.lt q h).2)
  clear hW hbW hr hown S0
  obtain ⟨N, hN⟩ : ∃ N, N = m.notes.length := ⟨_, rfl⟩
  have HNN := Lib.hid hN
  rw [← hN] at m3
  have hNz : (N : Int) ≤ 200 := by omega
  obtain ⟨⟨x0, x1, x2⟩, f0, f1, f2⟩ := rowN3 S1.out.row
  obtain ⟨⟨y0, y1⟩, _⟩ := rowN2 HN.out
  rw [← hN] at x1
  have hl0 := S1.out.row.lt
  have hl1 := HN.out.lt
  clear hN
  obtain ⟨X, hX⟩ : ∃ X, X = w.heap.size := ⟨_, rfl⟩
  have HX := Lib.hid hX
  have hXp : ¬ X = p := by omega
  have hXp' : ¬ p = X := by omega
  rw [← hX] at HN y0 y1 hl1 XN0
  clear hX
  by_cases c1 : q ≤ m.seq
  · have d1 : decide (q ≤ m.seq) = true := by simpa using c1
    have HE : Hid (m.put (q, v) = m) := by show _ = _; unfold Ln.M.put; rw [if_neg (fun h => by have := h.1; simp only at this; omega)]
    clear c1
    go_enter Tryz.func79, Tryz.ntmps79
    go_wp2_with fail
    rw [← HW.out, ← HX.out]
    go_quiet (fail)
    go_wp2_with fail
    exact bodyPost_ret (v := .tuple #[]) (by simp [results, Tryz.results79, go_sem]) rfl ⟨rfl, a, k, by rw [HE.out]; exact S1.out.below (ndrewN (Below.refl _ _) _)⟩
  have d1 : decide (q ≤ m.seq) = false := by simpa using c1
  by_cases c2 : 200 ≤ N
  · have d2 : decide ((200 : Int) ≤ (N : Int)) = true := by simp; omega
    have HE : Hid (m.put (q, v) = m) := by show _ = _; unfold Ln.M.put; rw [if_neg (fun h => by have := h.2; have := HNN.out; omega)]
    clear c1 c2
    go_enter Tryz.func79, Tryz.ntmps79
    go_wp2_with fail
    rw [← HW.out, ← HX.out]
    go_quiet (fail)
    go_wp2_with fail
    exact bodyPost_ret (v := .tuple #[]) (by simp [results, Tryz.results79, go_sem]) rfl ⟨rfl, a, k, by rw [HE.out]; exact S1.out.below (ndrewN (Below.refl _ _) _)⟩
  have d2 : decide ((200 : Int) ≤ (N : Int)) = false := by simp; omega
  have HE : Hid (m.put (q, v) = ⟨q, m.notes ++ [(q, v)], m.gaps + q - m.seq - 1⟩) := by show _ = _; unfold Ln.M.put; rw [if_pos ⟨by simp only; omega, by have := HNN.out; omega⟩]
  have e1 : IntKind.i64.wrap (q - m.seq) = q - m.seq := lnwrap (by omega) (by omega)
  have e2 : IntKind.i64.wrap (q - m.seq - 1) = q - m.seq - 1 := lnwrap (by omega) (by omega)
  have e3 : IntKind.i64.wrap (m.gaps + (q - m.seq - 1)) = m.gaps + (q - m.seq - 1) := lnwrap (by omega) (by omega)
  clear c1 c2
  go_enter Tryz.func79, Tryz.ntmps79
  go_wp2_with fail
  rw [← HW.out, ← HX.out]
  clear HW HX
  go_quiet (fail)
  obtain ⟨V, hV⟩ : ∃ V, V = W.drewN nq := ⟨_, rfl⟩
  have hbV : Below W.heap.size W V := by rw [hV]; exact ndrewN (Below.refl _ _) _
  rw [← hV]
  have S2 := Lib.hid (S1.out.below hbV)
  have HN2 := Lib.hid (nrow_below HN.out hbV)
  clear hV hbV S1 HN x0 x1 x2 f0 f1 f2 y0 y1 hl0 hl1
  obtain ⟨⟨x0, x1, x2⟩, f0, f1, f2⟩ := rowN3 S2.out.row
  obtain ⟨⟨y0, y1⟩, _⟩ := rowN2 HN2.out
  rw [← HNN.out] at x1
  have hl0 := S2.out.row.lt
  have hl1 := HN2.out.lt
  go_wp2_with fail
  go_region
  obtain ⟨U, hU⟩ : ∃ U, U = (V.setCell ⟨p, 2, none⟩ (.int .i64 (m.gaps + (q - m.seq - 1)))).drew := ⟨_, rfl⟩
  rw [← hU]
  have S3 : Hid (MaS p B [.int .i64 m.seq, .slice a m.notes.length k, .int .i64 (m.gaps + (q - m.seq - 1))] m.notes a k w U) := by show MaS _ _ _ _ _ _ _ _; rw [hU]; exact (S2.out.set 2 _ (by simp)).below (Below.refl _ _).drew
  have HN3 : Hid (U.rowIs X 37 2 (rowN [.int .i64 q, .int .i64 v])) := by show World.rowIs _ _ _ _ _; rw [hU]; exact (nrow_set HN2.out (p := ⟨p, 2, none⟩) hXp _).of_block rfl
  clear hU S2 HN2 x0 x1 x2 f0 f1 f2 y0 y1 hl0 hl1
  obtain ⟨⟨x0, x1, x2⟩, f0, f1, f2⟩ := rowN3 S3.out.row
  obtain ⟨⟨y0, y1⟩, _⟩ := rowN2 HN3.out
  have hl0 := S3.out.row.lt
  have hl1 := HN3.out.lt
  obtain ⟨U2, hU2⟩ : ∃ U2, U2 = U.setCell ⟨p, 0, none⟩ (.int .i64 q) := ⟨_, rfl⟩
  have S4 : Hid (MaS p B [.int .i64 q, .slice a m.notes.length k, .int .i64 (m.gaps + (q - m.seq - 1))] m.notes a k w U2) := by show MaS _ _ _ _ _ _ _ _; rw [hU2]; exact S3.out.set 0 _ (by simp)
  have HN4 : Hid (U2.rowIs X 37 2 (rowN [.int .i64 q, .int .i64 v])) := by show World.rowIs _ _ _ _ _; rw [hU2]; exact nrow_set HN3.out (p := ⟨p, 0, none⟩) hXp _
  have HU2 := Lib.hid hU2
  clear hU2 S3 HN3
  go_wp2_with fail
  rw [← HU2.out]
  clear HU2 x0 x1 x2 f0 f1 f2 y0 y1 hl0 hl1
  refine wp_region_held_drew (S := fun Y => Y.rowIs X 37 2 (rowN [.int .i64 q, .int .i64 v])) (by kernel_rfl) (HN4.out.of_block rfl) (fun hHeld => ?_)
  obtain ⟨Z, hZ⟩ : ∃ Z, Z = U2.drew := ⟨_, rfl⟩
  have SZ : Hid (MaS p B [.int .i64 q, .slice a m.notes.length k, .int .i64 (m.gaps + (q - m.seq - 1))] m.notes a k w Z) := by show MaS _ _ _ _ _ _ _ _; rw [hZ]; exact S4.out.below (Below.refl _ _).drew
  rw [← hZ] at hHeld ⊢
  clear hZ S4 HN4
  refine take_do (i := 0) (v := (.pointer (some ⟨p, 0, none⟩))) rfl (by kernel_rfl) (by kernel_rfl) (by kernel_rfl) (fun _ _ _ h => h) (by rfl) ?_ (by assumption) ?_
  · intro w hSw
    go_simp
  simp only [Act.put, List.setIfInBounds_toArray, List.set_cons_zero, List.set_cons_succ]
  refine take_do (i := 1) (v := (.pointer (some ⟨p, 0, none⟩))) rfl (by kernel_rfl) (by kernel_rfl) (by kernel_rfl) (fun _ _ _ h => h) (by rfl) ?_ (by assumption) ?_
  · intro w hSw
    go_simp
  simp only [Act.put, List.setIfInBounds_toArray, List.set_cons_zero, List.set_cons_succ]
  refine take_do (i := 2) (v := (.pointer (some ⟨p, 0, none⟩))) rfl (by kernel_rfl) (by kernel_rfl) (by kernel_rfl) (fun _ _ _ h => h) (by rfl) ?_ (by assumption) ?_
  · intro w hSw
    go_simp
  simp only [Act.put, List.setIfInBounds_toArray, List.set_cons_zero, List.set_cons_succ]
  refine take_do (i := 3) (v := (.pointer (some ⟨p, 1, none⟩))) rfl (by kernel_rfl) (by kernel_rfl) (by kernel_rfl) (fun _ _ _ h => h) (by rfl) ?_ (by assumption) ?_
  · intro w hSw
    go_simp
  simp only [Act.put, List.setIfInBounds_toArray, List.set_cons_zero, List.set_cons_succ]
  refine take_do (i := 5) (v := (.agg #[.int .i64 q, .int .i64 v])) rfl (by kernel_rfl) (by kernel_rfl) (by kernel_rfl) (fun _ _ _ h => h) (by rfl) ?_ (by assumption) ?_
  · intro w hSw
    obtain ⟨⟨q0, q1⟩, _⟩ := rowN2 hSw
    go_simp
  simp only [Act.put, List.setIfInBounds_toArray, List.set_cons_zero, List.set_cons_succ]
  refine wpAnyH_ready (rs := [4, 6]) (by kernel_rfl) (by simp) (AllReadyH.cons (at_drop (i := 4) rfl) (fun K2 hK => ?_) (AllReadyH.cons (at_drop (i := 6) rfl) (fun K2 hK => ?_) AllReadyH.nil))
  · obtain ⟨⟨x0, x1, x2⟩, _⟩ := rowN3 SZ.out.row
    rw [← HNN.out] at x1
    go_simp
    refine hK.out _ _ hHeld (fun hHeld2 => ?_)
    clear hK hHeld x0 x1 x2
    have hHeld := hHeld2
    clear hHeld2
    refine take_call (i := 6) rfl (by kernel_rfl) (fun K2 hK => ?_)
    obtain ⟨Z1, hZ1⟩ : ∃ Z1, Z1 = Z.alloc (.cells #[.int .i64 q, .int .i64 v] 37) := ⟨_, rfl⟩
    have hb : Below Z.heap.size Z Z1 := by rw [hZ1]; exact nbel_alloc _ _
    obtain ⟨gx, hgx⟩ : ∃ gx, gx = Z.heap.size := ⟨_, rfl⟩
    have HM1 : Hid (IsIn (some ⟨gx, 0, none⟩) (([(q, v)] : List Ln.Nt).length * 2) (Ln.fl [(q, v)]) Z1) := by show IsIn _ _ _ _; rw [hZ1, hgx]; exact one_in Z 37 q v
    have SZ1 := Lib.hid (SZ.out.below hb)
    go_simp
    rw [← hZ1, ← hgx]
    refine hK.out _ _ (nrow_below hHeld hb) (fun hHeld2 => ?_)
    clear hK hHeld hb hZ1 hgx
    have hHeld := hHeld2
    clear hHeld2
    refine take_call (i := 7) rfl (by kernel_rfl) (fun K2 hK => ?_)
    refine step_append_ns rfl (.tmp 43) (.tmp 45) 26 rfl 37 i0 (.agg #[.int .i64 0, .int .i64 0]) 16 Tryz.underlying26 hi hz0 hz1 hz2 rfl B (.slice a N k) m.notes [(q, v)] rfl (by rw [HNN.out]; exact SZ1.out.own) (some ⟨gx, 0, none⟩) 1 rfl HM1.out (by unfold maxLen; rw [← HNN.out]; simp; omega) (by rw [← HNN.out]; simp; omega) SZ1.out.num.2 ?_
    intro v6 Z2 hown hgrow
    obtain ⟨L2, hL2⟩ : ∃ L2, L2 = m.notes ++ [(q, v)] := ⟨_, rfl⟩
    have hown2 : Z2.ownsRow B 37 2 v6 L2.length (nvs L2) := by rw [hL2]; exact hown
    rw [HNN.out] at hgrow
    obtain ⟨a6, k6, rfl, _, _⟩ := own_ns hown2
    have S5 := Lib.hid (SZ1.out.push hgrow hown2)
    have hX2 : Z2.rowIs X 37 2 (rowN [.int .i64 q, .int .i64 v]) := hHeld.of_block (hgrow.block _ hHeld.lt (fun e => Nat.lt_irrefl _ (XN0.out _ e.symm)))
    refine hK.out _ _ hX2 (fun hHeld2 => ?_)
    clear hK hHeld hown hown2 hgrow SZ SZ1 HM1 hX2
    have hHeld := hHeld2
    clear hHeld2
    simp only [Act.put, List.setIfInBounds_toArray, List.set_cons_zero, List.set_cons_succ]
    refine take_do (i := 8) (v := (.pointer (some ⟨p, 0, none⟩))) rfl (by kernel_rfl) (by kernel_rfl) (by kernel_rfl) (fun _ _ _ h => h) (by rfl) ?_ (by assumption) ?_
    · intro w hSw
      go_simp
    simp only [Act.put, List.setIfInBounds_toArray, List.set_cons_zero, List.set_cons_succ]
    refine take_do (i := 9) (v := (.pointer (some ⟨p, 1, none⟩))) rfl (by kernel_rfl) (by kernel_rfl) (by kernel_rfl) (fun _ _ _ h => h) (by rfl) ?_ (by assumption) ?_
    · intro w hSw
      go_simp
    simp only [Act.put, List.setIfInBounds_toArray, List.set_cons_zero, List.set_cons_succ]
    obtain ⟨⟨z0, z1, z2⟩, p0, p1, p2⟩ := rowN3 S5.out.row
    have hl2 := S5.out.row.lt
    obtain ⟨WZ, hWZ⟩ : ∃ WZ, WZ = Z2.setCell ⟨p, 1, none⟩ (.slice a6 L2.length k6) := ⟨_, rfl⟩
    have S6 : Hid (MaS p B [.int .i64 q, .slice a6 L2.length k6, .int .i64 (m.gaps + (q - m.seq - 1))] L2 a6 k6 w WZ) := by show MaS _ _ _ _ _ _ _ _; rw [hWZ]; exact S5.out.set 1 _ (by simp)
    have hX3 : WZ.rowIs X 37 2 (rowN [.int .i64 q, .int .i64 v]) := by rw [hWZ]; exact nrow_set hHeld (p := ⟨p, 1, none⟩) hXp _
    have HWZ := Lib.hid hWZ
    have HL2 := Lib.hid hL2
    obtain ⟨M2, hM2⟩ : ∃ M2, M2 = L2.length := ⟨_, rfl⟩
    rw [← hM2] at HWZ ⊢
    clear hWZ hL2 hM2
    refine take_call (i := 10) rfl (by kernel_rfl) (fun K2 hK => ?_)
    go_simp
    rw [← HWZ.out]
    refine hK.out _ _ hX3 (fun hHeld2 => ?_)
    clear hK hHeld hHeld2 HWZ z0 z1 z2 p0 p1 p2 hl2 hX3 S5
    refine wpAnyH_done (by kernel_rfl) ?_ _
    go_wp2_with fail
    refine bodyPost_end (v := .tuple #[]) (by simp [results, Tryz.results79, go_sem]) rfl ⟨rfl, a6, k6, ?_⟩
    have hs := S6.out
    rw [HL2.out] at hs
    have eg : m.gaps + (q - m.seq - 1) = m.gaps + q - m.seq - 1 := by omega
    rw [eg] at hs
    rw [HE.out]
    exact hs
  · obtain ⟨Z1, hZ1⟩ : ∃ Z1, Z1 = Z.alloc (.cells #[.int .i64 q, .int .i64 v] 37) := ⟨_, rfl⟩
    have hb : Below Z.heap.size Z Z1 := by rw [hZ1]; exact nbel_alloc _ _
    obtain ⟨gx, hgx⟩ : ∃ gx, gx = Z.heap.size := ⟨_, rfl⟩
    have HM1 : Hid (IsIn (some ⟨gx, 0, none⟩) (([(q, v)] : List Ln.Nt).length * 2) (Ln.fl [(q, v)]) Z1) := by show IsIn _ _ _ _; rw [hZ1, hgx]; exact one_in Z 37 q v
    have SZ1 := Lib.hid (SZ.out.below hb)
    go_simp
    rw [← hZ1, ← hgx]
    refine hK.out _ _ (nrow_below hHeld hb) (fun hHeld2 => ?_)
    clear hK hHeld hb hZ1 hgx
    have hHeld := hHeld2
    clear hHeld2
    refine take_call (i := 4) rfl (by kernel_rfl) (fun K2 hK => ?_)
    obtain ⟨⟨x0, x1, x2⟩, _⟩ := rowN3 SZ1.out.row
    rw [← HNN.out] at x1
    go_simp
    refine hK.out _ _ hHeld (fun hHeld2 => ?_)
    clear hK hHeld x0 x1 x2
    have hHeld := hHeld2
    clear hHeld2
    refine take_call (i := 7) rfl (by kernel_rfl) (fun K2 hK => ?_)
    refine step_append_ns rfl (.tmp 43) (.tmp 45) 26 rfl 37 i0 (.agg #[.int .i64 0, .int .i64 0]) 16 Tryz.underlying26 hi hz0 hz1 hz2 rfl B (.slice a N k) m.notes [(q, v)] rfl (by rw [HNN.out]; exact SZ1.out.own) (some ⟨gx, 0, none⟩) 1 rfl HM1.out (by unfold maxLen; rw [← HNN.out]; simp; omega) (by rw [← HNN.out]; simp; omega) SZ1.out.num.2 ?_
    intro v6 Z2 hown hgrow
    obtain ⟨L2, hL2⟩ : ∃ L2, L2 = m.notes ++ [(q, v)] := ⟨_, rfl⟩
    have hown2 : Z2.ownsRow B 37 2 v6 L2.length (nvs L2) := by rw [hL2]; exact hown
    rw [HNN.out] at hgrow
    obtain ⟨a6, k6, rfl, _, _⟩ := own_ns hown2
    have S5 := Lib.hid (SZ1.out.push hgrow hown2)
    have hX2 : Z2.rowIs X 37 2 (rowN [.int .i64 q, .int .i64 v]) := hHeld.of_block (hgrow.block _ hHeld.lt (fun e => Nat.lt_irrefl _ (XN0.out _ e.symm)))
    refine hK.out _ _ hX2 (fun hHeld2 => ?_)
    clear hK hHeld hown hown2 hgrow SZ SZ1 HM1 hX2
    have hHeld := hHeld2
    clear hHeld2
    simp only [Act.put, List.setIfInBounds_toArray, List.set_cons_zero, List.set_cons_succ]
    refine take_do (i := 8) (v := (.pointer (some ⟨p, 0, none⟩))) rfl (by kernel_rfl) (by kernel_rfl) (by kernel_rfl) (fun _ _ _ h => h) (by rfl) ?_ (by assumption) ?_
    · intro w hSw
      go_simp
    simp only [Act.put, List.setIfInBounds_toArray, List.set_cons_zero, List.set_cons_succ]
    refine take_do (i := 9) (v := (.pointer (some ⟨p, 1, none⟩))) rfl (by kernel_rfl) (by kernel_rfl) (by kernel_rfl) (fun _ _ _ h => h) (by rfl) ?_ (by assumption) ?_
    · intro w hSw
      go_simp
    simp only [Act.put, List.setIfInBounds_toArray, List.set_cons_zero, List.set_cons_succ]
    obtain ⟨⟨z0, z1, z2⟩, p0, p1, p2⟩ := rowN3 S5.out.row
    have hl2 := S5.out.row.lt
    obtain ⟨WZ, hWZ⟩ : ∃ WZ, WZ = Z2.setCell ⟨p, 1, none⟩ (.slice a6 L2.length k6) := ⟨_, rfl⟩
    have S6 : Hid (MaS p B [.int .i64 q, .slice a6 L2.length k6, .int .i64 (m.gaps + (q - m.seq - 1))] L2 a6 k6 w WZ) := by show MaS _ _ _ _ _ _ _ _; rw [hWZ]; exact S5.out.set 1 _ (by simp)
    have hX3 : WZ.rowIs X 37 2 (rowN [.int .i64 q, .int .i64 v]) := by rw [hWZ]; exact nrow_set hHeld (p := ⟨p, 1, none⟩) hXp _
    have HWZ := Lib.hid hWZ
    have HL2 := Lib.hid hL2
    obtain ⟨M2, hM2⟩ : ∃ M2, M2 = L2.length := ⟨_, rfl⟩
    rw [← hM2] at HWZ ⊢
    clear hWZ hL2 hM2
    refine take_call (i := 10) rfl (by kernel_rfl) (fun K2 hK => ?_)
    go_simp
    rw [← HWZ.out]
    refine hK.out _ _ hX3 (fun hHeld2 => ?_)
    clear hK hHeld hHeld2 HWZ z0 z1 z2 p0 p1 p2 hl2 hX3 S5
    refine wpAnyH_done (by kernel_rfl) ?_ _
    go_wp2_with fail
    refine bodyPost_end (v := .tuple #[]) (by simp [results, Tryz.results79, go_sem]) rfl ⟨rfl, a6, k6, ?_⟩
    have hs := S6.out
    rw [HL2.out] at hs
    have eg : m.gaps + (q - m.seq - 1) = m.gaps + q - m.seq - 1 := by omega
    rw [eg] at hs
    rw [HE.out]
    exact hs
end Go.Proofs.YtdlojhncbgfjbaaGreatDoor
namespace Go.Proofs.YtdlojhncbgfjbaaGreatDoor
open Go.RowKit Go.Deep

/-- The block of a master. -/
abbrev maO (m : Ln.M) (a : Option Addr) (k : Nat) : Obj := .cells #[.int .i64 m.seq, .slice a m.notes.length k, .int .i64 m.gaps] 30
abbrev maZ : List Value := [.int .i64 0, .slice none 0 0, .int .i64 0]
abbrev maZO : Obj := .cells #[.int .i64 0, .slice none 0 0, .int .i64 0] 30
/-- What MasterTake tells. -/
def MaEnd (m : Ln.M) (B : Nat) (e : Ending) (W : World) : Prop := ∃ a k, e = .returned (maV m a k) ∧ NqOwn 37 B m.notes.length a (Ln.fl m.notes) W
/-- A list of frames, place by place. -/
theorem fr_row {B n : Nat} {v : Value} {os : List Fr.Out} {W : World} (h : W.ownsRow B 70 4 v n (os.flatMap outCells)) (hn : n = os.length) :
    ∃ a c, v = .slice a n c ∧ (n = 0 ∨ ∃ g M F, a = some ⟨g, 0, none⟩ ∧ B ≤ g ∧ W.rowIs g 70 M F ∧ n * 4 ≤ M ∧ ∀ i (hi : i < os.length), F (i * 4) = .int .i64 os[i].u ∧ F (i * 4 + 1) = .int .i64 os[i].k ∧ F (i * 4 + 2) = .int .i64 os[i].s ∧ F (i * 4 + 3) = .string ⟨os[i].b.toArray⟩) := by
  rcases h.2 with ⟨rfl, h2⟩ | ⟨g, cap, cur, rfl, e2, e3, e4, e5, e6, e7⟩
  · exact ⟨none, 0, by rw [h2], Or.inl h2⟩
  · refine ⟨_, cap, rfl, Or.inr ⟨g, cap * 4, fun i => cur[i]?.getD undef, rfl, e2, ⟨cur, e3, e6, fun i hi => ?_⟩, by omega, fun i hi => ?_⟩⟩
    · show cur[i]? = some (cur[i]?.getD undef)
      rw [Array.getElem?_eq_getElem (by omega)]
      rfl
    · have key : ∀ c, c < 4 → cur[i * 4 + c]? = (outCells os[i])[c]? := by
        intro c hc
        have h1 : (cur.toList.take (n * 4))[i * 4 + c]? = (os.flatMap outCells)[i * 4 + c]? := by rw [e7]
        rw [List.getElem?_take, if_pos (by omega), Array.getElem?_toList] at h1
        rw [h1]
        clear h1 e7 h
        induction os generalizing i n with
        | nil => simp at hi
        | cons o os ih =>
          cases i with
          | zero => rw [List.flatMap_cons, Nat.zero_mul, Nat.zero_add, List.getElem?_append_left (by simp [outCells]; exact hc)]; rfl
          | succ i =>
            rw [List.flatMap_cons, List.getElem?_append_right (by simp [outCells]; omega)]
            have e : (i + 1) * 4 + c - (outCells o).length = i * 4 + c := by simp [outCells]; omega
            rw [e]
            exact ih (n := os.length) rfl (by simp at hn; omega) i (by simpa using hi)
      have k0 := key 0 (by omega)
      have k1 := key 1 (by omega)
      have k2 := key 2 (by omega)
      have k3 := key 3 (by omega)
      simp only [outCells, Nat.add_zero] at k0 k1 k2 k3
      simp only [k0, k1, k2, k3]
      exact ⟨rfl, rfl, rfl, rfl⟩
theorem frames_field (a : Option Addr) (n c : Nat) (x y z : Int) (w : World) : (Instr.field 65 (.agg #[.slice a n c, .int .i64 x, .int .i64 y, .int .i64 z]) 0).run Tryz.prog w = .ok (.slice a n c) w := by kernel_rfl
theorem scan_len (l : List UInt8) : (Fr.scan l).1.length ≤ l.length := by
  generalize hn : l.length = n
  induction n using Nat.strongRecOn generalizing l with
  | ind n ih =>
    by_cases e : l = []
    · subst e; rw [Fr.scan_nil]; simp
    · by_cases h6 : (Fr.read l).code = 6
      · rw [Fr.scan_short l e h6]; simp
      · have hl : 0 < l.length := List.length_pos_iff.2 e
        by_cases h0 : (Fr.read l).code = 0
        · rw [Fr.scan_frame l e h0]
          have hu := Fr.read_used h0
          have := ih _ (by rw [← hn, List.length_drop]; omega) (l.drop (Fr.read l).used.toNat) rfl
          rw [List.length_drop] at this
          simp only [List.length_cons]; omega
        · rw [Fr.scan_lost l e h6 h0]
          have := ih _ (by rw [← hn, List.length_drop]; omega) (l.drop 1) rfl
          rw [List.length_drop] at this
          simp only; omega
set_option maxRecDepth 100000 in
set_option maxHeartbeats 4000000 in
theorem msright_any (m : Ln.M) (a : Option Addr) (k : Nat) (w : World) (hn : m.notes.length ≤ 1048576) :
    Calls Tryz.prog 76 #[maV m a k] w fun e w' => e = .returned (.bool (lB m.Right)) ∧ Below w.heap.size w w' := by
  have HB := Lib.hid (nbel_alloc w (maO m a k))
  obtain ⟨N, hN⟩ : ∃ N, N = m.notes.length := ⟨_, rfl⟩
  have HNN := Lib.hid hN
  have HB2 : Hid (Below w.heap.size w (w.alloc (.cells #[.int .i64 m.seq, .slice a N k, .int .i64 m.gaps] 30))) := nbel_alloc _ _
  rw [← hN] at hn
  unfold maV
  rw [← hN]
  clear hN HB
  go_enter Tryz.func76, Tryz.ntmps76
  go_wp2_with fail
  refine (lwithin_any _ _ _).mono ?_
  rintro e w1 ⟨rfl, rfl⟩
  by_cases c1 : 0 ≤ m.seq ∧ m.seq ≤ 65535
  case neg =>
    rw [decide_eq_false c1]
    have HE : Hid (lB m.Right = false) := lB_ff (fun h => c1 h.1)
    clear c1
    go_wp2_with fail
    go_ret
    exact ⟨by rw [HE.out]; rfl, HB2.out⟩
  rw [decide_eq_true c1]
  by_cases c2 : (N : Int) ≤ 200
  case neg =>
    have HE : Hid (lB m.Right = false) := lB_ff (fun h => by have := h.2.1; have := HNN.out; omega)
    clear c1
    go_wp2_with fail
    go_ret
    exact ⟨by rw [HE.out]; rfl, HB2.out⟩
  go_wp2_with fail
  refine (lwithin_any _ _ _).mono ?_
  rintro e w1 ⟨rfl, rfl⟩
  have HE : Hid (decide (0 ≤ m.gaps ∧ m.gaps ≤ 1000000000) = lB m.Right) := by
    show _ = _
    by_cases q : 0 ≤ m.gaps ∧ m.gaps ≤ 1000000000
    · rw [decide_eq_true q]; exact (lB_tt ⟨c1, by have := HNN.out; omega, q⟩).symm
    · rw [decide_eq_false q]; exact (lB_ff (fun h => q h.2.2)).symm
  obtain ⟨b, hb0⟩ : ∃ b, b = decide (0 ≤ m.gaps ∧ m.gaps ≤ 1000000000) := ⟨_, rfl⟩
  rw [← hb0] at HE ⊢
  clear hb0 c1
  go_wp2_with fail
  go_ret
  exact ⟨by rw [← HE.out]; rfl, HB2.out⟩
theorem fold_take (u : Int) (os : List Fr.Out) (m : Ln.M) (i : Nat) (hi : i < os.length) : (os.take (i + 1)).foldl (Ln.M.frame u) m = Ln.M.frame u ((os.take i).foldl (Ln.M.frame u) m) os[i] := by
  rw [List.take_add_one, List.getElem?_eq_getElem hi, List.foldl_append]; rfl
set_option maxRecDepth 100000 in
set_option maxHeartbeats 8000000 in
theorem implTake_any (m : Ln.M) (a : Option Addr) (k : Nat) (u : Int) (t : ByteArray) (w : World) (h : IsIn a (m.notes.length * 2) (Ln.fl m.notes) w) (hn : m.notes.length ≤ 1048576) (hg : LnG w) :
    Calls Tryz.prog 56 #[maV m a k, .int .i64 u, .string t] w fun e w' => MaEnd (m.take u t.data.toList) w.heap.size e w' ∧ Below w.heap.size w w' := by
  obtain ⟨W, hW⟩ : ∃ W, W = (w.alloc (maO m a k)).alloc maZO := ⟨_, rfl⟩
  have hsz : W.heap.size = w.heap.size + 2 := by rw [hW]; simp
  have HB : Hid (Below w.heap.size w W) := by show Below _ _ _; rw [hW]; exact ((Below.refl _ _).alloc (Nat.le_refl _) _).alloc (by simp) _
  have HX : Hid (W.rowIs w.heap.size 30 3 (rowN (maL m a k))) := by show W.rowIs _ _ _ _; rw [hW]; exact nrow_below (rowN_alloc w (maL m a k) _) (nbel_alloc _ _)
  have HY : Hid (W.rowIs (w.heap.size + 1) 30 3 (rowN maZ)) := by show W.rowIs _ _ _ _; rw [hW]; exact rowN_alloc' (by simp) maZ _
  have H := Lib.hid (h.below HB.out)
  have HN := Lib.hid hn
  have HG := Lib.hid hg
  have HW := Lib.hid hW
  have HSZ := Lib.hid hsz
  clear hW h hsz hg
  go_enter Tryz.func56, Tryz.ntmps56
  go_wp2_with fail
  rw [← HW.out]
  clear HW
  refine (cln_any a k m.notes _ H.out HN.out).mono ?_
  rintro e w1 ⟨⟨v1, rfl, hown⟩, hb⟩
  rw [HSZ.out] at hown
  obtain ⟨a1, k1, rfl, _, _⟩ := own_ns hown
  replace HX := Lib.hid (nrow_below HX.out hb)
  replace HY := Lib.hid (nrow_below HY.out hb)
  replace HB : Hid (Below w.heap.size w w1) := HB.out.trans (hb.mono HB.out.size)
  have HO := Lib.hid hown
  have hs1 : w.heap.size + 2 ≤ w1.heap.size := by have := hb.size; rw [HSZ.out] at this; exact this
  clear hb hown H HSZ
  obtain ⟨W2, hW2⟩ : ∃ W2, W2 = w1.setCell ⟨w.heap.size, 1, none⟩ (.slice a1 m.notes.length k1) := ⟨_, rfl⟩
  have b2 : ∀ x, x ≠ w.heap.size → W2.heap[x]? = w1.heap[x]? := fun x hx => by rw [hW2]; exact bihs _ _ _ hx _ _
  have hs2 : w.heap.size + 2 ≤ W2.heap.size := by rw [hW2]; simpa using hs1
  have SM : Hid (MaS w.heap.size (w.heap.size + 2) (maL m a1 k1) m.notes a1 k1 w W2) := by
    refine ⟨by rw [hW2]; exact rowN_put HX.out 1 _ (by simp), ownR_keep HO.out (fun q hq _ => b2 q (by have := (HO.out.lt q hq).1; omega)), by rw [hW2]; exact HB.out.setCell (p := ⟨w.heap.size, 1, none⟩) (Nat.le_refl _) _, fun j T n F hr _ hj => (nrow_below hr HB.out).of_block (b2 j hj), by omega, hs2⟩
  have HY2 : Hid (W2.rowIs (w.heap.size + 1) 30 3 (rowN maZ)) := HY.out.of_block (b2 _ (by omega))
  have HW2 := Lib.hid hW2
  obtain ⟨⟨x0, x1, x2⟩, f0, f1, f2⟩ := rowN3 HX.out
  have hl0 := HX.out.lt
  clear hW2 b2 hs1
  go_wp2_with fail
  rw [← HW2.out]
  clear HW2 HX HY HO HB x0 x1 x2 f0 f1 f2 hl0
  refine (msright_any m a1 k1 _ HN.out).mono ?_
  rintro e W3 ⟨rfl, hb⟩
  have SM3 := Lib.hid (SM.out.below hb)
  have HY3 := Lib.hid (nrow_below HY2.out hb)
  clear hb SM HY2 hs2
  obtain ⟨⟨x0, x1, x2⟩, f0, f1, f2⟩ := rowN3 SM3.out.row
  obtain ⟨⟨y0, y1, y2⟩, g0, g1, g2⟩ := rowN3 HY3.out
  have hl0 := SM3.out.row.lt
  have hl1 := HY3.out.lt
  by_cases ct : m.Right
  case neg =>
    rw [lB_ff ct]
    have HE : Hid (m.take u t.data.toList = m) := Ln.M.take_no (fun h => ct h.1)
    clear ct
    obtain ⟨a1', c1', e1, hq, _⟩ := own_ns SM3.out.own
    cases e1
    have HQ3 := Lib.hid hq
    clear hq
    obtain ⟨ML, hML⟩ : ∃ ML, ML = m.notes.length := ⟨_, rfl⟩
    have HML := Lib.hid hML
    rw [← hML] at x1
    have zr := Lib.hid (lput3 HY3.out rfl (.int .i64 m.seq) (.slice a1 ML k1) (.int .i64 m.gaps))
    have zb := Lib.hid (lbel3 SM3.out.bel (g := w.heap.size + 1) (by omega) (.int .i64 m.seq) (.slice a1 ML k1) (.int .i64 m.gaps))
    have zq : Hid (NqOwn 37 w.heap.size m.notes.length a1 (Ln.fl m.notes) ((((W3.setCell ⟨w.heap.size + 1, 0, none⟩ (.int .i64 m.seq)).setCell ⟨w.heap.size + 1, 1, none⟩ (.slice a1 ML k1)).setCell ⟨w.heap.size + 1, 2, none⟩ (.int .i64 m.gaps)))) := (HQ3.out.same (fun k hk _ => lblk3 (by omega) _ _ _)).low (by omega)
    clear hML
    go_wp2_with fail
    refine bodyPost_ret (v := maV m a1 k1) ?_ rfl ⟨by rw [HE.out]; exact ⟨a1, k1, rfl, zq.out⟩, zb.out⟩
    obtain ⟨⟨u0, u1, u2⟩, _⟩ := rowN3 zr.out
    simp only [results, Tryz.results56]
    simp only [maV, ← HML.out]
    simp [go_sem, u0, u1, u2]
  rw [lB_tt ct]
  have HMR := Lib.hid ct
  clear ct
  by_cases cs : 20000 < t.size
  · have HE : Hid (m.take u t.data.toList = m) := Ln.M.take_no (fun h => by have e : t.data.toList.length = t.size := rfl; have := h.2; omega)
    go_wp2_with fail
    refine (implScan_over t cs _ (HG.out.typ.below SM3.out.bel)).mono ?_
    rintro e W4 ⟨v4, rfl, hown4, hb⟩
    have hown5 : W4.ownsRow W3.heap.size 70 4 v4 0 (([] : List Fr.Out).flatMap outCells) := hown4
    obtain ⟨fa, fc, rfl, _⟩ := fr_row hown5 rfl
    clear hown4 hown5
    have SM4 := Lib.hid (SM3.out.below hb)
    have HY4 := Lib.hid (nrow_below HY3.out hb)
    clear hb SM3 HY3 x0 x1 x2 f0 f1 f2 y0 y1 y2 g0 g1 g2 hl0 hl1
    obtain ⟨⟨x0, x1, x2⟩, f0, f1, f2⟩ := rowN3 SM4.out.row
    obtain ⟨⟨y0, y1, y2⟩, g0, g1, g2⟩ := rowN3 HY4.out
    have hl0 := SM4.out.row.lt
    have hl1 := HY4.out.lt
    have hfd := frames_field fa 0 fc 0 0 2
    go_wp2_with fail
    clear hfd
    go_loopw [8, 9, 10, 23] (fun _ _ _ iv wr => iv = .int .i64 0 ∧ wr = W4) (fun _ _ _ _ _ => 0)
    case atStart => exact ⟨rfl, rfl⟩
    case round =>
      obtain ⟨rfl, rfl⟩ := hrel
      obtain ⟨a1', c1', e1, hq, _⟩ := own_ns SM4.out.own
      cases e1
      have HQ3 := Lib.hid hq
      clear hq
      obtain ⟨ML, hML⟩ : ∃ ML, ML = m.notes.length := ⟨_, rfl⟩
      have HML := Lib.hid hML
      rw [← hML] at x1
      have zr := Lib.hid (lput3 HY4.out rfl (.int .i64 m.seq) (.slice a1 ML k1) (.int .i64 m.gaps))
      have zb := Lib.hid (lbel3 SM4.out.bel (g := w.heap.size + 1) (by omega) (.int .i64 m.seq) (.slice a1 ML k1) (.int .i64 m.gaps))
      have zq : Hid (NqOwn 37 w.heap.size m.notes.length a1 (Ln.fl m.notes) ((((wr.setCell ⟨w.heap.size + 1, 0, none⟩ (.int .i64 m.seq)).setCell ⟨w.heap.size + 1, 1, none⟩ (.slice a1 ML k1)).setCell ⟨w.heap.size + 1, 2, none⟩ (.int .i64 m.gaps)))) := (HQ3.out.same (fun k hk _ => lblk3 (by omega) _ _ _)).low (by omega)
      clear hML
      go_wp2_with fail
      refine bodyPost_ret (v := maV m a1 k1) ?_ rfl ⟨by rw [HE.out]; exact ⟨a1, k1, rfl, zq.out⟩, zb.out⟩
      obtain ⟨⟨u0, u1, u2⟩, _⟩ := rowN3 zr.out
      simp only [results, Tryz.results56]
      simp only [maV, ← HML.out]
      simp [go_sem, u0, u1, u2]
  have hts : t.size ≤ 20000 := by omega
  have HTS : Hid (t.data.toList.length ≤ 20000) := hts
  clear cs
  go_wp2_with fail
  refine (implScan_any t hts _ (HG.out.typ.below SM3.out.bel)).mono ?_
  rintro e W4 ⟨v4, rfl, hown4, hb⟩
  obtain ⟨os, hos⟩ : ∃ os, os = (Fr.scan t.data.toList).1 := ⟨_, rfl⟩
  rw [← hos] at hown4
  obtain ⟨fa, fc, rfl, hfr⟩ := fr_row hown4 rfl
  have HGD : Hid (∀ o ∈ os, Ln.Good o) := by show ∀ o ∈ os, _; rw [hos]; exact Ln.scan_good _
  have HE : Hid (m.take u t.data.toList = os.foldl (Ln.M.frame u) m) := by show _ = _; rw [hos]; exact Ln.M.take_yes HMR.out HTS.out
  have SM4 := Lib.hid (SM3.out.below hb)
  have HY4 := Lib.hid (nrow_below HY3.out hb)
  have HFR : Hid (os.length = 0 ∨ ∃ g M F, fa = some ⟨g, 0, none⟩ ∧ g ≠ w.heap.size ∧ W4.rowIs g 70 M F ∧ os.length * 4 ≤ M ∧ ∀ i (hi : i < os.length), F (i * 4) = .int .i64 os[i].u ∧ F (i * 4 + 1) = .int .i64 os[i].k ∧ F (i * 4 + 2) = .int .i64 os[i].s ∧ F (i * 4 + 3) = .string ⟨os[i].b.toArray⟩) := by
    rcases hfr with h | ⟨g, M, F, h1, h2, h3⟩
    · exact Or.inl h
    · exact Or.inr ⟨g, M, F, h1, by have := SM3.out.row.lt; omega, h3⟩
  have hosl : os.length ≤ 20000 := by rw [hos]; have := scan_len t.data.toList; have := HTS.out; omega
  obtain ⟨N, hN⟩ : ∃ N, N = os.length := ⟨_, rfl⟩
  have HNN := Lib.hid hN
  rw [← hN] at hosl ⊢
  clear hb hos hown4 hfr hN SM3 HY3 x0 x1 x2 f0 f1 f2 y0 y1 y2 g0 g1 g2 hl0 hl1 hts
  have hfd := fun x y => frames_field fa N fc x y 0
  go_wp2_with fail
  clear hfd
  go_loopw [8, 9, 10, 23] (fun _ _ _ iv wr => ∃ (i : Nat) (mi : Ln.M) (ai : Option Addr) (ki : Nat), i ≤ N ∧ iv = .int .i64 i ∧ Hid (mi = (os.take i).foldl (Ln.M.frame u) m) ∧ Hid mi.Mid ∧ Hid (MaS w.heap.size (w.heap.size + 2) (maL mi ai ki) mi.notes ai ki W4 wr)) (fun _ _ _ iv _ => N - (intOf iv).toNat)
  case atStart => exact ⟨0, m, a1, k1, Nat.zero_le _, rfl, rfl, HMR.out.mid, ⟨SM4.out.row, SM4.out.own, Below.refl _ _, fun _ _ _ _ h _ _ => h, SM4.out.num⟩⟩
  case round =>
    obtain ⟨i, mi, ai, ki, hiN, rfl, hmi, hmid, hS⟩ := hrel
    by_cases hlt : i < N
    · have hltz : (i : Int) < (N : Int) := by omega
      have HIL : i < os.length := by rw [← HNN.out]; exact hlt
      obtain ⟨g, M, F, hfa, hgp, hFr, hM, hFc⟩ : ∃ g M F, fa = some ⟨g, 0, none⟩ ∧ g ≠ w.heap.size ∧ W4.rowIs g 70 M F ∧ os.length * 4 ≤ M ∧ ∀ i (hi : i < os.length), F (i * 4) = .int .i64 os[i].u ∧ F (i * 4 + 1) = .int .i64 os[i].k ∧ F (i * 4 + 2) = .int .i64 os[i].s ∧ F (i * 4 + 3) = .string ⟨os[i].b.toArray⟩ := by
        rcases HFR.out with h | h
        · omega
        · exact h
      obtain ⟨o, ho⟩ : ∃ o, o = os[i] := ⟨_, rfl⟩
      have HGO : Hid (Ln.Good o) := by show Ln.Good o; rw [ho]; exact HGD.out _ (List.getElem_mem HIL)
      have hmi1 : Hid (Ln.M.frame u mi o = (os.take (i + 1)).foldl (Ln.M.frame u) m) := by show _ = _; rw [fold_take u os m i HIL, ← hmi.out, ho]
      have hrow := hS.out.oth g _ _ _ hFr (by decide) hgp
      obtain ⟨c0, c1, c2, c3⟩ := hFc i HIL
      rw [← ho] at c0 c1 c2 c3
      have q0 := hrow.cell (i := i * 4) (by omega)
      have q1 := hrow.cell (i := i * 4 + 1) (by omega)
      have q2 := hrow.cell (i := i * 4 + 2) (by omega)
      have q3 := hrow.cell (i := i * 4 + 3) (by omega)
      rw [c0] at q0
      rw [c1] at q1
      rw [c2] at q2
      rw [c3] at q3
      subst hfa
      obtain ⟨V, hV⟩ : ∃ V, V = wr.alloc (.cells #[.int .i64 o.u, .int .i64 o.k, .int .i64 o.s, .string ⟨o.b.toArray⟩] 70) := ⟨_, rfl⟩
      have hbV : Below wr.heap.size wr V := by rw [hV]; exact nbel_alloc _ _
      have SV := Lib.hid (hS.out.below hbV)
      have HV := Lib.hid hV
      have HGW : Hid (LnG V) := HG.out.below ((SM4.out.bel.trans SV.out.bel))
      clear hV hbV hS hrow c0 c1 c2 c3 hFr hM hFc hgp HIL ho
      go_wp2_with fail
      rw [← HV.out]
      clear HV q0 q1 q2 q3
      refine (noteOf_any u o HGO.out.2.2 _ HGW.out).mono ?_
      rintro e w5 ⟨⟨v5, b5, rfl, hb5t, hb5f⟩, hb⟩
      have SV5 := Lib.hid (SV.out.below hb)
      have HT5 := Lib.hid hb5t
      have HF5 := Lib.hid hb5f
      clear hb SV HGW hb5t hb5f
      obtain ⟨V6, hV6⟩ : ∃ V6, V6 = w5.alloc (.cells #[.int .i64 o.s, .int .i64 v5] 37) := ⟨_, rfl⟩
      have hbV6 : Below w5.heap.size w5 V6 := by rw [hV6]; exact nbel_alloc _ _
      have SV6 := Lib.hid (SV5.out.below hbV6)
      have HZ6 : Hid (V6.rowIs w5.heap.size 37 2 (rowN [.int .i64 o.s, .int .i64 v5])) := by show World.rowIs _ _ _ _ _; rw [hV6]; exact rowN_alloc _ _ _
      obtain ⟨⟨z0, z1⟩, _⟩ := rowN2 HZ6.out
      have HV6 := Lib.hid hV6
      rw [hV6] at z0 z1
      clear hV6 hbV6 SV5 HZ6
      cases b5 with
      | false =>
        have HFE : Hid (Ln.M.frame u mi o = mi) := by show _ = _; unfold Ln.M.frame; rw [HF5.out rfl]
        go_wp2_with fail
        rw [← HV6.out]
        go_roundw
        case rel => exact ⟨i + 1, mi, ai, ki, by omega, by go_num, by rw [← HFE.out]; exact hmi1, hmid, SV6⟩
        case measure => simp [intOf]; omega
      | true =>
        have HFE : Hid (Ln.M.frame u mi o = mi.put (o.s, v5)) := by show _ = _; unfold Ln.M.frame; rw [HT5.out rfl]
        go_wp2_with fail
        rw [← HV6.out]
        clear HV6 z0 z1
        refine (take_any w.heap.size (w.heap.size + 2) mi ai ki o.s v5 _ SV6.out.row SV6.out.own SV6.out.num.1 SV6.out.num.2 hmid.out HGO.out.1 HGO.out.2.1).mono ?_
        rintro e w7 ⟨rfl, a7, k7, hS7⟩
        have S7 := Lib.hid (SV6.out.trans hS7)
        have HM7 : Hid (mi.put (o.s, v5)).Mid := hmid.out.put ⟨HGO.out.1, HGO.out.2.1⟩
        clear hS7 SV6
        obtain ⟨m7, hm7⟩ : ∃ m7, m7 = mi.put (o.s, v5) := ⟨_, rfl⟩
        rw [← hm7] at S7 HM7 HFE
        clear hm7
        go_wp2_with fail
        go_roundw
        case rel => exact ⟨i + 1, m7, a7, k7, by omega, by go_num, by rw [← HFE.out]; exact hmi1, HM7, S7⟩
        case measure => simp [intOf]; omega
    · obtain rfl : i = N := by omega
      have HE2 : Hid (m.take u t.data.toList = mi) := by show _ = _; rw [HE.out, hmi.out, HNN.out, List.take_length]
      have HYR := Lib.hid (hS.out.oth _ _ _ _ HY4.out (by decide) (by omega))
      have HBR : Hid (Below w.heap.size w wr) := SM4.out.bel.trans hS.out.bel
      clear HE
      have HE : Hid (m.take u t.data.toList = mi) := HE2
      obtain ⟨⟨x0, x1, x2⟩, f0, f1, f2⟩ := rowN3 hS.out.row
      obtain ⟨⟨y0, y1, y2⟩, g0, g1, g2⟩ := rowN3 HYR.out
      have hl0 := hS.out.row.lt
      have hl1 := HYR.out.lt
      obtain ⟨a1', c1', e1, hq, _⟩ := own_ns hS.out.own
      cases e1
      have HQ3 := Lib.hid hq
      clear hq
      obtain ⟨ML, hML⟩ : ∃ ML, ML = mi.notes.length := ⟨_, rfl⟩
      have HML := Lib.hid hML
      rw [← hML] at x1
      have zr := Lib.hid (lput3 HYR.out rfl (.int .i64 mi.seq) (.slice ai ML ki) (.int .i64 mi.gaps))
      have zb := Lib.hid (lbel3 HBR.out (g := w.heap.size + 1) (by omega) (.int .i64 mi.seq) (.slice ai ML ki) (.int .i64 mi.gaps))
      have zq : Hid (NqOwn 37 w.heap.size mi.notes.length ai (Ln.fl mi.notes) ((((wr.setCell ⟨w.heap.size + 1, 0, none⟩ (.int .i64 mi.seq)).setCell ⟨w.heap.size + 1, 1, none⟩ (.slice ai ML ki)).setCell ⟨w.heap.size + 1, 2, none⟩ (.int .i64 mi.gaps)))) := (HQ3.out.same (fun k hk _ => lblk3 (by omega) _ _ _)).low (by omega)
      clear hML
      go_wp2_with fail
      refine bodyPost_ret (v := maV mi ai ki) ?_ rfl ⟨by rw [HE.out]; exact ⟨ai, ki, rfl, zq.out⟩, zb.out⟩
      obtain ⟨⟨u0, u1, u2⟩, _⟩ := rowN3 zr.out
      simp only [results, Tryz.results56]
      simp only [maV, ← HML.out]
      simp [go_sem, u0, u1, u2]
end Go.Proofs.YtdlojhncbgfjbaaGreatDoor
namespace Go.Proofs.YtdlojhncbgfjbaaGreatDoor
open Go.RowKit Go.Deep

def loZ : List Value := [.int .i64 0, .int .i64 0, .bool false, .int .i64 0, .int .i64 0, .slice none 0 0, .int .i64 0, .int .i64 0, .slice none 0 0, .int .i64 0, .int .i64 0]
/-- A LinkOut that owns its lists, and they part. -/
def LoEnd (s : Ln.S) (m : Ln.M) (c : Int) (B : Nat) (e : Ending) (W : World) : Prop := ∃ a k b l, e = .returned (loV s m a k b l c) ∧ NqOwn 37 B s.wait.length a (Ln.fl s.wait) W ∧ NqOwn 37 B m.notes.length b (Ln.fl m.notes) W ∧ (∀ g o g' o', s.wait.length ≠ 0 → m.notes.length ≠ 0 → a = some ⟨g, o, none⟩ → b = some ⟨g', o', none⟩ → g ≠ g')
theorem LoEnd.zero (c : Int) (B : Nat) (W : World) : LoEnd Ln.S.zero Ln.M.new c B (.returned (loV Ln.S.zero Ln.M.new none 0 none 0 c)) W := ⟨none, 0, none, 0, rfl, Or.inl rfl, Or.inl rfl, fun _ _ _ _ h => absurd rfl h⟩
end Go.Proofs.YtdlojhncbgfjbaaGreatDoor
namespace Go.Proofs.YtdlojhncbgfjbaaGreatDoor
open Go.RowKit Go.Deep

/-- The scan so far: the slot of the answer, the answer so far, its list, the old memory. -/
def SC (w : World) (v : Value) (lost rest : Int) (os : List Fr.Out) (W : World) : Prop :=
  W.rowIs w.heap.size 65 4 (so4 (.slice none 0 0) 0 0 0) ∧ W.rowIs (w.heap.size + 1) 65 4 (so4 v lost rest 0) ∧ W.ownsRow (w.heap.size + 2) 70 4 v os.length (os.flatMap outCells) ∧ Below w.heap.size w W
theorem SC.below {w : World} {v : Value} {lost rest : Int} {os : List Fr.Out} {W W' : World} (h : SC w v lost rest os W) (hb : Below W.heap.size W W') : SC w v lost rest os W' :=
  ⟨h.1.of_block (hb.block _ h.1.lt), h.2.1.of_block (hb.block _ h.2.1.lt), ownsRow_block h.2.2.1 (fun k _ hk => hb.block k hk), h.2.2.2.trans (hb.mono h.2.2.2.size)⟩
theorem SC.set {w : World} {v v' : Value} {lost rest lost' rest' : Int} {os : List Fr.Out} {W : World} (h : SC w v lost rest os W) (i : Nat) (x : Value) (e : ∀ j, j < 4 → (if j = i then x else so4 v lost rest 0 j) = so4 v' lost' rest' 0 j) (ho : W.ownsRow (w.heap.size + 2) 70 4 v' os.length (os.flatMap outCells)) : SC w v' lost' rest' os (W.setCell ⟨w.heap.size + 1, i, none⟩ x) :=
  ⟨h.1.setOther (by show w.heap.size ≠ w.heap.size + 1; omega) x, (h.2.1.set i x).congr e, ownsRow_block ho (fun k hk _ => blk_setCell_other _ _ _ _ (by show k ≠ w.heap.size + 1; omega)), h.2.2.2.setCell (p := ⟨w.heap.size + 1, i, none⟩) (by show w.heap.size ≤ w.heap.size + 1; omega) x⟩
theorem SC.lost {w : World} {v : Value} {lost rest : Int} {os : List Fr.Out} {W : World} (h : SC w v lost rest os W) (x : Int) : SC w v x rest os (W.setCell ⟨w.heap.size + 1, 1, none⟩ (.int .i64 x)) :=
  h.set 1 _ (fun j _ => by unfold so4; by_cases e : j = 1 <;> simp [e]) h.2.2.1
theorem SC.rest {w : World} {v : Value} {lost rest : Int} {os : List Fr.Out} {W : World} (h : SC w v lost rest os W) (x : Int) : SC w v lost x os (W.setCell ⟨w.heap.size + 1, 2, none⟩ (.int .i64 x)) :=
  h.set 2 _ (fun j _ => by unfold so4; by_cases e : j = 2 <;> simp [e]) h.2.2.1
/-- A frame behind the others. -/
theorem SC.push {w : World} {v v' : Value} {lost rest : Int} {os : List Fr.Out} {o : Fr.Out} {W W' : World} {ob : Obj} (h : SC w v lost rest os W) (hg : (W.alloc ob).grownBy W' v.ownBlock) (hown : W'.ownsRow (w.heap.size + 2) 70 4 v' (os.length + 1) (os.flatMap outCells ++ outCells o)) :
    SC w v' lost rest (os ++ [o]) (W'.setCell ⟨w.heap.size + 1, 0, none⟩ v') := by
  have hz := h.2.1.lt
  have hrow : ∀ k, v.ownBlock = some k → w.heap.size + 2 ≤ k := fun k e => (h.2.2.1.lt k e).1
  have hk : ∀ k, k < w.heap.size + 2 → W'.heap[k]? = W.heap[k]? := fun k hk => by
    rw [hg.block k (by simp; omega) (fun e => by have := hrow k e.symm; omega)]
    exact blk_alloc_lt _ _ _ (by omega)
  have r1 : W'.rowIs w.heap.size 65 4 (so4 (.slice none 0 0) 0 0 0) := h.1.of_block (hk _ (by omega))
  have r2 : W'.rowIs (w.heap.size + 1) 65 4 (so4 v lost rest 0) := h.2.1.of_block (hk _ (by omega))
  have hb : Below w.heap.size w W' := ⟨hg.os.trans h.2.2.2.os, hg.tape.trans h.2.2.2.tape, hg.output.trans h.2.2.2.output, by have := hg.size; have := h.2.2.2.size; simp at *; omega, fun k hk2 => (hk k (by omega)).trans (h.2.2.2.block k hk2)⟩
  refine ⟨r1.setOther (by show w.heap.size ≠ w.heap.size + 1; omega) _, (r2.set 0 v').congr (fun j _ => by unfold so4; by_cases e : j = 0 <;> simp [e]), ?_, hb.setCell (p := ⟨w.heap.size + 1, 0, none⟩) (by show w.heap.size ≤ w.heap.size + 1; omega) _⟩
  refine ownsRow_block ?_ (fun k hk _ => blk_setCell_other _ _ _ _ (by show k ≠ w.heap.size + 1; omega))
  rw [List.flatMap_append, List.length_append]
  simpa using hown

theorem sc_fin0 {w : World} {v : Value} {lost rest : Int} {os : List Fr.Out} {W : World} (h : SC w v lost rest os W) (a b c d : Value) :
    (((((W.setCell ⟨w.heap.size, 0, none⟩ a).setCell ⟨w.heap.size, 1, none⟩ b).setCell ⟨w.heap.size, 2, none⟩ c).setCell ⟨w.heap.size, 3, none⟩ d).cell? ⟨w.heap.size, 0, none⟩ = some a ∧ ((((W.setCell ⟨w.heap.size, 0, none⟩ a).setCell ⟨w.heap.size, 1, none⟩ b).setCell ⟨w.heap.size, 2, none⟩ c).setCell ⟨w.heap.size, 3, none⟩ d).cell? ⟨w.heap.size, 1, none⟩ = some b ∧ ((((W.setCell ⟨w.heap.size, 0, none⟩ a).setCell ⟨w.heap.size, 1, none⟩ b).setCell ⟨w.heap.size, 2, none⟩ c).setCell ⟨w.heap.size, 3, none⟩ d).cell? ⟨w.heap.size, 2, none⟩ = some c ∧ ((((W.setCell ⟨w.heap.size, 0, none⟩ a).setCell ⟨w.heap.size, 1, none⟩ b).setCell ⟨w.heap.size, 2, none⟩ c).setCell ⟨w.heap.size, 3, none⟩ d).cell? ⟨w.heap.size, 3, none⟩ = some d) ∧
    ((((W.setCell ⟨w.heap.size, 0, none⟩ a).setCell ⟨w.heap.size, 1, none⟩ b).setCell ⟨w.heap.size, 2, none⟩ c).setCell ⟨w.heap.size, 3, none⟩ d).ownsRow (w.heap.size + 2) 70 4 v os.length (os.flatMap outCells) ∧ Below w.heap.size w ((((W.setCell ⟨w.heap.size, 0, none⟩ a).setCell ⟨w.heap.size, 1, none⟩ b).setCell ⟨w.heap.size, 2, none⟩ c).setCell ⟨w.heap.size, 3, none⟩ d) := by
  have r := (((h.1.set 0 a).set 1 b).set 2 c).set 3 d
  refine ⟨⟨?_, ?_, ?_, ?_⟩, ?_, ?_⟩
  · have := r.cell (i := 0) (by omega); simpa using this
  · have := r.cell (i := 1) (by omega); simpa using this
  · have := r.cell (i := 2) (by omega); simpa using this
  · have := r.cell (i := 3) (by omega); simpa using this
  · exact ownsRow_set (ownsRow_set (ownsRow_set (ownsRow_set h.2.2.1 (p := ⟨w.heap.size, 0, none⟩) (by show w.heap.size < _; omega) a) (p := ⟨w.heap.size, 1, none⟩) (by show w.heap.size < _; omega) b) (p := ⟨w.heap.size, 2, none⟩) (by show w.heap.size < _; omega) c) (p := ⟨w.heap.size, 3, none⟩) (by show w.heap.size < _; omega) d
  · exact (((h.2.2.2.setCell (p := ⟨w.heap.size, 0, none⟩) (Nat.le_refl _) a).setCell (p := ⟨w.heap.size, 1, none⟩) (Nat.le_refl _) b).setCell (p := ⟨w.heap.size, 2, none⟩) (Nat.le_refl _) c).setCell (p := ⟨w.heap.size, 3, none⟩) (Nat.le_refl _) d
theorem sc_fin {w : World} {v : Value} {lost rest : Int} {os : List Fr.Out} {W : World} (h : SC w v lost rest os W) (a b c d : Value) (ob : Obj) :
    ((((((W.setCell ⟨w.heap.size, 0, none⟩ a).setCell ⟨w.heap.size, 1, none⟩ b).setCell ⟨w.heap.size, 2, none⟩ c).setCell ⟨w.heap.size, 3, none⟩ d).alloc ob).cell? ⟨w.heap.size, 0, none⟩ = some a ∧ (((((W.setCell ⟨w.heap.size, 0, none⟩ a).setCell ⟨w.heap.size, 1, none⟩ b).setCell ⟨w.heap.size, 2, none⟩ c).setCell ⟨w.heap.size, 3, none⟩ d).alloc ob).cell? ⟨w.heap.size, 1, none⟩ = some b ∧ (((((W.setCell ⟨w.heap.size, 0, none⟩ a).setCell ⟨w.heap.size, 1, none⟩ b).setCell ⟨w.heap.size, 2, none⟩ c).setCell ⟨w.heap.size, 3, none⟩ d).alloc ob).cell? ⟨w.heap.size, 2, none⟩ = some c ∧ (((((W.setCell ⟨w.heap.size, 0, none⟩ a).setCell ⟨w.heap.size, 1, none⟩ b).setCell ⟨w.heap.size, 2, none⟩ c).setCell ⟨w.heap.size, 3, none⟩ d).alloc ob).cell? ⟨w.heap.size, 3, none⟩ = some d) ∧
    (((((W.setCell ⟨w.heap.size, 0, none⟩ a).setCell ⟨w.heap.size, 1, none⟩ b).setCell ⟨w.heap.size, 2, none⟩ c).setCell ⟨w.heap.size, 3, none⟩ d).alloc ob).ownsRow (w.heap.size + 2) 70 4 v os.length (os.flatMap outCells) ∧ Below w.heap.size w (((((W.setCell ⟨w.heap.size, 0, none⟩ a).setCell ⟨w.heap.size, 1, none⟩ b).setCell ⟨w.heap.size, 2, none⟩ c).setCell ⟨w.heap.size, 3, none⟩ d).alloc ob) := by
  obtain ⟨⟨h0, h1, h2, h3⟩, h4, h5⟩ := sc_fin0 h a b c d
  have hl := World.block_lt_of_cell? _ _ h0
  exact ⟨⟨(World.cell?_alloc_lt _ _ ⟨w.heap.size, 0, none⟩ hl).trans h0, (World.cell?_alloc_lt _ _ ⟨w.heap.size, 1, none⟩ hl).trans h1, (World.cell?_alloc_lt _ _ ⟨w.heap.size, 2, none⟩ hl).trans h2, (World.cell?_alloc_lt _ _ ⟨w.heap.size, 3, none⟩ hl).trans h3⟩, h4.alloc _, h5.alloc h5.size _⟩

theorem sc_start (w : World) : SC w (.slice none 0 0) ((0 : Nat) : Int) 0 [] ((w.alloc (.cells #[.slice none 0 0, .int .i64 0, .int .i64 0, .int .i64 0] 65)).alloc (.cells #[.slice none 0 0, .int .i64 0, .int .i64 0, .int .i64 0] 65)) := by
  have r1 := World.rowIs_alloc w #[.slice none 0 0, .int .i64 0, .int .i64 0, .int .i64 0] 65 _ (so4_row (.slice none 0 0) 0 0 0)
  have r2 := World.rowIs_alloc (w.alloc (.cells #[.slice none 0 0, .int .i64 0, .int .i64 0, .int .i64 0] 65)) #[.slice none 0 0, .int .i64 0, .int .i64 0, .int .i64 0] 65 _ (so4_row (.slice none 0 0) 0 0 0)
  have e : (w.alloc (.cells #[.slice none 0 0, .int .i64 0, .int .i64 0, .int .i64 0] 65)).heap.size = w.heap.size + 1 := by simp
  rw [e] at r2
  exact ⟨r1.alloc _, r2, World.ownsRow_nil _ _ _ _, ((Below.refl _ _).alloc (Nat.le_refl _) _).alloc (by simp) _⟩

set_option maxRecDepth 100000 in
set_option maxHeartbeats 4000000 in
theorem specScan_any (s : ByteArray) (hs : s.size ≤ 20000) (w : World) :
    Calls Tryz.prog 22 #[.string s] w fun e w' => ∃ v, e = .returned (.agg #[v, .int .i64 (Fr.scan s.data.toList).2.1, .int .i64 (Fr.scan s.data.toList).2.2, .int .i64 0]) ∧ w'.ownsRow (w.heap.size + 2) 70 4 v (Fr.scan s.data.toList).1.length ((Fr.scan s.data.toList).1.flatMap outCells) ∧ Below w.heap.size w w' := by
  have hz : ¬ (20000 : Int) < (s.size : Int) := by omega
  obtain ⟨i1, hi1, hy0, hy1, hy2⟩ := info_parts info_fr
  go_enter Tryz.func22, Tryz.ntmps22
  go_wp2_with fail
  go_loopw [4, 5] (fun iv _ wr => ∃ (i lost : Nat) (v : Value) (os : List Fr.Out), iv = .int .i64 i ∧ i ≤ s.size ∧ Hid (lost ≤ i) ∧ Hid (os.length ≤ i) ∧ Hid (SC w v lost 0 os wr) ∧ Hid (Fr.scan s.data.toList = (os ++ (Fr.scan (s.data.toList.drop i)).1, lost + (Fr.scan (s.data.toList.drop i)).2.1, (Fr.scan (s.data.toList.drop i)).2.2))) (fun iv _ _ => s.size - (intOf iv).toNat)
  case atStart => exact ⟨0, 0, .slice none 0 0, [], rfl, Nat.zero_le _, Nat.le_refl _, Nat.zero_le _, sc_start w, by show _ = _; simp⟩
  case round =>
    obtain ⟨i, lost, v0, os, rfl, hi, hlo, hol, hS, hsc⟩ := hrel
    obtain ⟨av, nv, cv, rfl⟩ : ∃ a n c, v0 = .slice a n c := by
      rcases hS.out.2.2.1.2 with h | ⟨g, cp, _, e, _⟩
      · exact ⟨none, 0, 0, h.1⟩
      · exact ⟨_, _, _, e⟩
    by_cases hlt : i < s.size
    · have hltz : (i : Int) < (s.size : Int) := by omega
      have hex : (s.extract i s.size).data.toList = s.data.toList.drop i := by
        rw [Lib.extract_data, List.take_of_length_le (by simp)]
      have hes : (s.extract i s.size).size ≤ 20000 := by
        show (s.extract i s.size).data.toList.length ≤ 20000
        rw [hex, List.length_drop]
        have : s.data.toList.length = s.size := rfl
        omega
      have HK := Lib.hid (fun wx => specFrRead_any (s.extract i s.size) hes wx)
      rw [hex] at HK
      have hne : Hid (s.data.toList.drop i ≠ []) := fun e => by
        have e2 := congrArg List.length e
        rw [List.length_drop] at e2
        have : s.data.toList.length = s.size := rfl
        simp at e2; omega
      clear hex hes
      go_wp2_with fail
      refine (HK.out _).mono ?_
      rintro e w2 ⟨rfl, hb⟩
      have HS2 : Hid (SC w (.slice av nv cv) lost 0 os w2) := hS.out.below hb
      clear hb hS HK
      have HRd : Hid (∃ o, o = Fr.read (s.data.toList.drop i)) := ⟨_, rfl⟩
      obtain ⟨o, ho⟩ := HRd.out
      rw [← ho]
      have HO := Lib.hid ho
      clear ho HRd
      unfold Fr.val
      have c0 : w2.cell? ⟨w.heap.size + 1, 0, none⟩ = some (.slice av nv cv) := HS2.out.2.1.cell (i := 0) (by omega)
      have c1 : w2.cell? ⟨w.heap.size + 1, 1, none⟩ = some (.int .i64 lost) := HS2.out.2.1.cell (i := 1) (by omega)
      have c2 : w2.cell? ⟨w.heap.size + 1, 2, none⟩ = some (.int .i64 0) := HS2.out.2.1.cell (i := 2) (by omega)
      have c3 : w2.cell? ⟨w.heap.size + 1, 3, none⟩ = some (.int .i64 0) := HS2.out.2.1.cell (i := 3) (by omega)
      have g0 : w2.frozen? ⟨w.heap.size + 1, 0, none⟩ = false := HS2.out.2.1.frozen 0
      have g1 : w2.frozen? ⟨w.heap.size + 1, 1, none⟩ = false := HS2.out.2.1.frozen 1
      have g2 : w2.frozen? ⟨w.heap.size + 1, 2, none⟩ = false := HS2.out.2.1.frozen 2
      have r0 : w2.cell? ⟨w.heap.size, 0, none⟩ = some (.slice none 0 0) := HS2.out.1.cell (i := 0) (by omega)
      have r1 : w2.cell? ⟨w.heap.size, 1, none⟩ = some (.int .i64 0) := HS2.out.1.cell (i := 1) (by omega)
      have r2 : w2.cell? ⟨w.heap.size, 2, none⟩ = some (.int .i64 0) := HS2.out.1.cell (i := 2) (by omega)
      have r3 : w2.cell? ⟨w.heap.size, 3, none⟩ = some (.int .i64 0) := HS2.out.1.cell (i := 3) (by omega)
      have k0 : w2.frozen? ⟨w.heap.size, 0, none⟩ = false := HS2.out.1.frozen 0
      have k1 : w2.frozen? ⟨w.heap.size, 1, none⟩ = false := HS2.out.1.frozen 1
      have k2 : w2.frozen? ⟨w.heap.size, 2, none⟩ = false := HS2.out.1.frozen 2
      have k3 : w2.frozen? ⟨w.heap.size, 3, none⟩ = false := HS2.out.1.frozen 3
      have zO : w.heap.size + 1 < w2.heap.size := HS2.out.2.1.lt
      have zR : w.heap.size < w2.heap.size := HS2.out.1.lt
      have H3 : Hid (SC w (.slice av nv cv) lost 0 os (w2.alloc (.cells #[.int .i64 o.u, .int .i64 o.k, .int .i64 o.s, .string ⟨o.b.toArray⟩, .int .i64 o.used, .int .i64 o.code] 98))) := HS2.out.below ((Below.refl _ _).alloc (Nat.le_refl _) _)
      by_cases h6 : o.code = 6
      · have e6 : (o.code == 6) = true := by simp [h6]
        have HC6 : Hid (Fr.scan s.data.toList = (os, lost, s.size - i)) := by
          show _ = _
          rw [hsc.out, Fr.scan_short _ hne.out (by rw [← HO.out]; exact h6)]
          simp
        clear h6
        have H4 := Lib.hid (HS2.out.rest ((s.size : Int) - (i : Int)))
        have hF := Lib.hid (sc_fin H4.out (.slice av nv cv) (.int .i64 lost) (.int .i64 ((s.size : Int) - (i : Int))) (.int .i64 0) (.cells #[.int .i64 o.u, .int .i64 o.k, .int .i64 o.s, .string ⟨o.b.toArray⟩, .int .i64 o.used, .int .i64 o.code] 98))
        go_wp2_with fail
        exact bodyPost_ret (v := .agg #[.slice av nv cv, .int .i64 lost, .int .i64 ((s.size : Int) - (i : Int)), .int .i64 0]) (by
          obtain ⟨⟨x0, x1, x2, x3⟩, _⟩ := hF.out
          simp only [results, Tryz.results22]
          simp [go_sem, x0, x1, x2, x3]) rfl ⟨.slice av nv cv, by
          rw [HC6.out]
          have e : ((s.size - i : Nat) : Int) = (s.size : Int) - (i : Int) := by omega
          simp only [e], by rw [HC6.out]; exact hF.out.2.1, hF.out.2.2⟩
      · have e6 : (o.code == 6) = false := by simp [h6]
        by_cases h0 : o.code = 0
        · have e0 : (o.code != 0) = false := by simp [h0]
          have hu := Fr.read_used (l := s.data.toList.drop i) (by rw [← HO.out]; exact h0)
          rw [← HO.out, List.length_drop] at hu
          obtain ⟨m, hm⟩ : ∃ m : Nat, o.used = (m : Int) := ⟨o.used.toNat, by omega⟩
          have hm8 : 8 ≤ m := by omega
          have hmi : i + m ≤ s.size := by
            have : s.data.toList.length = s.size := rfl
            omega
          have hs2 : Hid (Fr.scan s.data.toList = ((os ++ [o]) ++ (Fr.scan (s.data.toList.drop (i + m))).1, lost + (Fr.scan (s.data.toList.drop (i + m))).2.1, (Fr.scan (s.data.toList.drop (i + m))).2.2)) := by
            show _ = _
            rw [hsc.out, Fr.scan_frame _ hne.out (by rw [← HO.out]; exact h0), ← HO.out, hm, List.drop_drop]
            simp
          have hol2 := hol.out
          have hown0 := Lib.hid (HS2.out.2.2.1.lt)
          clear h6 h0 hu
          rw [hm] at H3
          rw [hm]
          go_wp2_with (at_builtin; refine wpList_append_own _ rfl _ _ 63 rfl (w.heap.size + 2) 70 i1 _ 4 40 Tryz.underlying63 hi1 hy0 hy1 hy2 rfl (by decide) _ _ _ rfl (H3.out.2.2.1.alloc _) ⟨w2.heap.size + 1, 0, none⟩ 1 1 [.int .i64 o.u, .int .i64 o.k, .int .i64 o.s, .string ⟨o.b.toArray⟩] rfl rfl ?d1 ?d2 ?d3 ?d4 ?d5 ?_)
          case d1 =>
            intro j x hj
            match j, hj with
            | 0, hj => simp at hj; subst hj; simp [Addr.add]
            | 1, hj => simp at hj; subst hj; simp [Addr.add]
            | 2, hj => simp at hj; subst hj; simp [Addr.add]
            | 3, hj => simp at hj; subst hj; simp [Addr.add]
          case d2 =>
            intro x hx
            simp at hx
            rcases hx with rfl | rfl | rfl | rfl <;> rfl
          case d3 => unfold maxLen; omega
          case d4 => omega
          case d5 => simp; omega
          intro v5 W5 hown hgrow hnil
          have H5 := Lib.hid (H3.out.push (o := o) hgrow hown)
          obtain ⟨a5, n5, c5, rfl⟩ : ∃ a n c, v5 = .slice a n c := by
            rcases hown.2 with h | ⟨g, cp, _, e, _⟩
            · exact ⟨none, 0, 0, h.1⟩
            · exact ⟨_, _, _, e⟩
          have hW : ∀ k, k ≤ w2.heap.size → (∀ q, (Value.slice av nv cv).ownBlock = some q → q ≠ k) → W5.heap[k]? = ((w2.alloc (.cells #[.int .i64 o.u, .int .i64 o.k, .int .i64 o.s, .string ⟨o.b.toArray⟩, .int .i64 m, .int .i64 o.code] 98)).alloc (.cells #[.int .i64 o.u, .int .i64 o.k, .int .i64 o.s, .string ⟨o.b.toArray⟩] 70)).heap[k]? := fun k hk hq => hgrow.block k (by simp; omega) (fun e => hq k e.symm rfl)
          have q0 := hW (w.heap.size + 1) (by omega) (fun q e => by have := (hown0.out q e).1; omega)
          have q1 := hW w2.heap.size (Nat.le_refl _) (fun q e => by have := (hown0.out q e).2; omega)
          have n0 : W5.cell? ⟨w.heap.size + 1, 0, none⟩ = some (.slice av nv cv) := by
            rw [World.cell?_of_block (a := ⟨w.heap.size + 1, 0, none⟩) q0, World.cell?_alloc_lt _ _ _ (by simp; omega), World.cell?_alloc_lt _ _ _ zO]; exact c0
          have n1 : W5.frozen? ⟨w.heap.size + 1, 0, none⟩ = false := ((H3.out.2.1.alloc _).of_block q0).frozen 0
          have n4 : W5.cell? ⟨w2.heap.size, 4, none⟩ = some (.int .i64 m) := by
            rw [World.cell?_of_block (a := ⟨w2.heap.size, 4, none⟩) q1]; simp
          have n6 : w2.heap.size < W5.heap.size := by have := hgrow.size; simp at this; omega
          have n7 : w.heap.size + 1 < W5.heap.size := by omega
          clear hown hgrow hnil hW q0 q1 hown0 H3
          go_wp2_with fail
          go_roundw
          case rel => exact ⟨i + m, lost, .slice a5 n5 c5, os ++ [o], by go_num, by omega, by have := hlo.out; show _ ≤ _; omega, by show _ ≤ _; simp; omega, H5, hs2⟩
          case measure => simp [intOf]; omega
        · have e0 : (o.code != 0) = true := by simp [h0]
          have H4 := Lib.hid (HS2.out.lost ((lost : Int) + 1))
          have hs2 : Hid (Fr.scan s.data.toList = (os ++ (Fr.scan (s.data.toList.drop (i + 1))).1, (lost + 1) + (Fr.scan (s.data.toList.drop (i + 1))).2.1, (Fr.scan (s.data.toList.drop (i + 1))).2.2)) := by
            show _ = _
            rw [hsc.out, Fr.scan_lost _ hne.out (by rw [← HO.out]; exact h6) (by rw [← HO.out]; exact h0), List.drop_drop]
            simp only [Nat.add_assoc, Nat.add_comm 1]
          have hlo2 := hlo.out
          clear h6 h0
          go_wp2_with fail
          go_roundw
          case rel => exact ⟨i + 1, lost + 1, .slice av nv cv, os, by go_num, by omega, by show _ ≤ _; omega, by have := hol.out; show _ ≤ _; omega, by
            have := H4.out.below ((Below.refl _ _).alloc (Nat.le_refl _) (.cells #[.int .i64 o.u, .int .i64 o.k, .int .i64 o.s, .string ⟨o.b.toArray⟩, .int .i64 o.used, .int .i64 o.code] 98))
            exact this, hs2⟩
          case measure => simp [intOf]; omega
    · obtain rfl : i = s.size := by omega
      have HC : Hid (Fr.scan s.data.toList = (os, lost, 0)) := by
        show _ = _
        have e : s.data.toList.drop s.size = [] := List.drop_eq_nil_of_le (Nat.le_refl _)
        rw [hsc.out, e, Fr.scan_nil]; simp
      have c0 : wr.cell? ⟨w.heap.size + 1, 0, none⟩ = some (.slice av nv cv) := hS.out.2.1.cell (i := 0) (by omega)
      have c1 : wr.cell? ⟨w.heap.size + 1, 1, none⟩ = some (.int .i64 lost) := hS.out.2.1.cell (i := 1) (by omega)
      have c2 : wr.cell? ⟨w.heap.size + 1, 2, none⟩ = some (.int .i64 0) := hS.out.2.1.cell (i := 2) (by omega)
      have c3 : wr.cell? ⟨w.heap.size + 1, 3, none⟩ = some (.int .i64 0) := hS.out.2.1.cell (i := 3) (by omega)
      have r0 : wr.cell? ⟨w.heap.size, 0, none⟩ = some (.slice none 0 0) := hS.out.1.cell (i := 0) (by omega)
      have r1 : wr.cell? ⟨w.heap.size, 1, none⟩ = some (.int .i64 0) := hS.out.1.cell (i := 1) (by omega)
      have r2 : wr.cell? ⟨w.heap.size, 2, none⟩ = some (.int .i64 0) := hS.out.1.cell (i := 2) (by omega)
      have r3 : wr.cell? ⟨w.heap.size, 3, none⟩ = some (.int .i64 0) := hS.out.1.cell (i := 3) (by omega)
      have k0 : wr.frozen? ⟨w.heap.size, 0, none⟩ = false := hS.out.1.frozen 0
      have k1 : wr.frozen? ⟨w.heap.size, 1, none⟩ = false := hS.out.1.frozen 1
      have k2 : wr.frozen? ⟨w.heap.size, 2, none⟩ = false := hS.out.1.frozen 2
      have k3 : wr.frozen? ⟨w.heap.size, 3, none⟩ = false := hS.out.1.frozen 3
      have hF := Lib.hid (sc_fin0 hS.out (.slice av nv cv) (.int .i64 lost) (.int .i64 0) (.int .i64 0))
      go_wp2_with fail
      exact bodyPost_ret (v := .agg #[.slice av nv cv, .int .i64 lost, .int .i64 0, .int .i64 0]) (by
        obtain ⟨⟨x0, x1, x2, x3⟩, _⟩ := hF.out
        simp only [results, Tryz.results22]
        simp [go_sem, x0, x1, x2, x3]) rfl ⟨_, by rw [HC.out]; rfl, by rw [HC.out]; exact hF.out.2.1, hF.out.2.2⟩
end Go.Proofs.YtdlojhncbgfjbaaGreatDoor
namespace Go.Proofs.YtdlojhncbgfjbaaGreatDoor
open Go.RowKit Go.Deep

theorem noteOf_num {u : Int} {o : Fr.Out} {n : Int} {b : Bool} (h : M.NumTo o.b n b) (hu : o.u = u) (hk : o.k = 3) (hb : b = true) (h1 : -1000000 ≤ n) (h2 : n ≤ 1000000) : Ln.noteOf u o = some (o.s, n) := noteOf_some h1 h2 hu hk (h.2.2.1 hb).symm
theorem noteOf_nonum {u : Int} {o : Fr.Out} {n : Int} {b : Bool} (h : M.NumTo o.b n b) (hb : ¬ (b = true ∧ -1000000 ≤ n ∧ n ≤ 1000000)) : Ln.noteOf u o = none := noteOf_none (fun v h1 h2 _ _ h5 => by
  obtain ⟨e1, e2⟩ := h.2.2.2 v (by omega) (by omega) h5.symm
  exact hb ⟨e2, by omega, by omega⟩)
set_option maxRecDepth 100000 in
set_option maxHeartbeats 16000000 in
theorem specTake_any (m : Ln.M) (a : Option Addr) (k : Nat) (u : Int) (t : ByteArray) (w : World) (h : IsIn a (m.notes.length * 2) (Ln.fl m.notes) w) (hn : m.notes.length ≤ 1048576) (htl : t.size ≤ 9223372036854775807) :
    Calls Tryz.prog 13 #[maV m a k, .int .i64 u, .string t] w fun e w' => MaEnd (m.take u t.data.toList) w.heap.size e w' ∧ Below w.heap.size w w' := by
  obtain ⟨i0, hi, hz0, hz1, hz2⟩ := info_parts linfo_note
  obtain ⟨W, hW⟩ : ∃ W, W = ((w.alloc (maO m a k)).alloc maZO).alloc (maO m a k) := ⟨_, rfl⟩
  have hsz : W.heap.size = w.heap.size + 3 := by rw [hW]; simp
  have HB : Hid (Below w.heap.size w W) := by show Below _ _ _; rw [hW]; exact (((Below.refl _ _).alloc (Nat.le_refl _) _).alloc (by simp) _).alloc (by simp; omega) _
  have HX : Hid (W.rowIs w.heap.size 30 3 (rowN (maL m a k))) := by show W.rowIs _ _ _ _; rw [hW]; exact nrow_below (nrow_below (rowN_alloc w (maL m a k) _) (nbel_alloc _ _)) (nbel_alloc _ _)
  have HY : Hid (W.rowIs (w.heap.size + 1) 30 3 (rowN maZ)) := by show W.rowIs _ _ _ _; rw [hW]; exact nrow_below (rowN_alloc' (by simp) maZ _) (nbel_alloc _ _)
  have HZ : Hid (W.rowIs (w.heap.size + 1 + 1) 30 3 (rowN (maL m a k))) := by show W.rowIs _ _ _ _; rw [hW]; exact rowN_alloc' (by simp) (maL m a k) _
  obtain ⟨W1, hW1⟩ : ∃ W1, W1 = W.alloc (.cells #[] 37) := ⟨_, rfl⟩
  have hsz1 : W1.heap.size = w.heap.size + 4 := by rw [hW1]; simp; omega
  have O1 : Hid (W1.ownsRow (w.heap.size + 3) 37 2 (.slice (some ⟨w.heap.size + 3, 0, none⟩) 0 0) ([] : List Ln.Nt).length (nvs [])) := by
    have := World.ownsRow_made (e := 37) (size := 2) W #[] 0 (Nat.le_refl _) (Nat.zero_le _) rfl
    rw [hsz, ← hW1] at this
    exact this
  have hb1 : Below W.heap.size W W1 := by rw [hW1]; exact nbel_alloc _ _
  have HM := Lib.hid ((h.below HB.out).below hb1)
  have HX1 := Lib.hid (nrow_below HX.out hb1)
  have HY1 := Lib.hid (nrow_below HY.out hb1)
  have HZ1 := Lib.hid (nrow_below HZ.out hb1)
  have HB1 : Hid (Below w.heap.size w W1) := HB.out.trans (hb1.mono HB.out.size)
  have HWW : Hid (W1 = (((w.alloc (maO m a k)).alloc maZO).alloc (maO m a k)).alloc (.cells #[] 37)) := by show _ = _; rw [hW1, hW]
  have HSZ1 := Lib.hid hsz1
  have HN := Lib.hid hn
  obtain ⟨⟨x0, x1, x2⟩, f0, f1, f2⟩ := rowN3 HX1.out
  clear hW hW1 hsz hsz1 h hb1 HB HX HY HZ
  rw [HWW.out] at O1 HM x1
  go_enter Tryz.func13, Tryz.ntmps13
  go_wp2_with (at_builtin; refine wpList_append_ns (l := []) (m := m.notes) rfl _ _ 26 rfl 37 i0 (.agg #[.int .i64 0, .int .i64 0]) 16 Tryz.underlying26 hi hz0 hz1 hz2 rfl (w.heap.size + 3) _ rfl O1.out a k ?c5 HM.out (by unfold maxLen; simp; omega) (by simp; omega) (by simp) ?_)
  case c5 => rfl
  intro v5 w5 hown hgrow
  rw [← HWW.out] at hgrow
  have hgb : ∀ q, q < w.heap.size + 3 → w5.heap[q]? = W1.heap[q]? := fun q hq => hgrow.block q (by rw [HSZ1.out]; omega) (by simp [Value.ownBlock]; omega)
  have HX5 : Hid (w5.rowIs w.heap.size 30 3 (rowN (maL m a k))) := HX1.out.of_block (hgb _ (by omega))
  have HY5 : Hid (w5.rowIs (w.heap.size + 1) 30 3 (rowN maZ)) := HY1.out.of_block (hgb _ (by omega))
  have HZ5 : Hid (w5.rowIs (w.heap.size + 1 + 1) 30 3 (rowN (maL m a k))) := HZ1.out.of_block (hgb _ (by omega))
  have HB5 : Hid (Below w.heap.size w w5) := HB1.out.trans ⟨hgrow.os, hgrow.tape, hgrow.output, hgrow.size, fun q hq => hgb q (by omega)⟩
  have hown2 : w5.ownsRow (w.heap.size + 3) 37 2 v5 m.notes.length (nvs m.notes) := by simpa using hown
  obtain ⟨a5, k5, rfl, _, _⟩ := own_ns hown2
  have HO5 := Lib.hid hown2
  have hs5 : w.heap.size + 3 ≤ w5.heap.size := by have := hgrow.size; rw [HSZ1.out] at this; omega
  clear hown hown2 hgrow hgb O1 HM HX1 HY1 HZ1 HB1 HWW HSZ1 x0 x1 x2 f0 f1 f2
  obtain ⟨V, hV⟩ : ∃ V, V = w5.setCell ⟨w.heap.size + 1 + 1, 1, none⟩ (.slice a5 m.notes.length k5) := ⟨_, rfl⟩
  have bV : ∀ q, q ≠ w.heap.size + 1 + 1 → V.heap[q]? = w5.heap[q]? := fun q hq => by rw [hV]; exact bihs _ _ _ hq _ _
  have SM : Hid (MaS (w.heap.size + 1 + 1) (w.heap.size + 3) (maL m a5 k5) m.notes a5 k5 V V) := ⟨by rw [hV]; exact rowN_put HZ5.out 1 _ (by simp), ownR_keep HO5.out (fun q hq _ => bV q (by have := (HO5.out.lt q hq).1; omega)), Below.refl _ _, fun _ _ _ _ h _ _ => h, by omega, by rw [hV]; simpa using hs5⟩
  have HXV : Hid (V.rowIs w.heap.size 30 3 (rowN (maL m a k))) := HX5.out.of_block (bV _ (by omega))
  have HYV : Hid (V.rowIs (w.heap.size + 1) 30 3 (rowN maZ)) := HY5.out.of_block (bV _ (by omega))
  have HBV : Hid (Below w.heap.size w V) := by show Below _ _ _; rw [hV]; exact HB5.out.setCell (p := ⟨w.heap.size + 1 + 1, _, none⟩) (by show w.heap.size ≤ w.heap.size + 1 + 1; omega) _
  have HV := Lib.hid hV
  obtain ⟨⟨zz0, zz1, zz2⟩, pp0, pp1, pp2⟩ := rowN3 HZ5.out
  obtain ⟨⟨x0, x1, x2⟩, _⟩ := rowN3 HXV.out
  obtain ⟨N0, hN0⟩ : ∃ N0, N0 = m.notes.length := ⟨_, rfl⟩
  have HN0 := Lib.hid hN0
  rw [← hN0] at x1
  have hn0 : N0 ≤ 1048576 := by rw [hN0]; exact hn
  rw [HV.out] at x0 x1 x2
  have hl2 := HZ5.out.lt
  clear hV bV hs5 HX5 HY5 HZ5 HB5 HO5 hN0
  by_cases kk0 : m.seq < 0
  · have HE : Hid (m.take u t.data.toList = m) := Ln.M.take_no (fun h => by have := h.1.1; omega)
    obtain ⟨⟨z0, z1, z2⟩, p0, p1, p2⟩ := rowN3 SM.out.row
    obtain ⟨⟨y0, y1, y2⟩, g0, g1, g2⟩ := rowN3 HYV.out
    have hl0 := HYV.out.lt
    have hl2b := SM.out.row.lt
    obtain ⟨a1', c1', e1, hq, _⟩ := own_ns SM.out.own
    cases e1
    have HQ3 := Lib.hid hq
    clear hq
    have zr := Lib.hid (lput3 HYV.out rfl (.int .i64 m.seq) (.slice a5 m.notes.length k5) (.int .i64 m.gaps))
    have zb := Lib.hid (lbel3 HBV.out (g := w.heap.size + 1) (by omega) (.int .i64 m.seq) (.slice a5 m.notes.length k5) (.int .i64 m.gaps))
    have zq : Hid (NqOwn 37 w.heap.size m.notes.length a5 (Ln.fl m.notes) ((((V.setCell ⟨w.heap.size + 1, 0, none⟩ (.int .i64 m.seq)).setCell ⟨w.heap.size + 1, 1, none⟩ (.slice a5 m.notes.length k5)).setCell ⟨w.heap.size + 1, 2, none⟩ (.int .i64 m.gaps)))) := (HQ3.out.same (fun k hk _ => lblk3 (by omega) _ _ _)).low (by omega)
    rw [HV.out] at z0 z1 z2 p0 p1 p2 y0 y1 y2 g0 g1 g2 zr zb zq hl0 hl2b
    clear HV HQ3 SM HYV HXV HBV
    go_wp2_with fail
    refine bodyPost_ret (v := maV m a5 k5) ?_ rfl ⟨by rw [HE.out]; exact ⟨a5, k5, rfl, zq.out⟩, zb.out⟩
    obtain ⟨⟨u0, u1, u2⟩, _⟩ := rowN3 zr.out
    simp only [results, Tryz.results13]
    simp [go_sem, u0, u1, u2, maV]
  by_cases kk1 : 65535 < m.seq
  · have HE : Hid (m.take u t.data.toList = m) := Ln.M.take_no (fun h => by have := h.1.1; omega)
    obtain ⟨⟨z0, z1, z2⟩, p0, p1, p2⟩ := rowN3 SM.out.row
    obtain ⟨⟨y0, y1, y2⟩, g0, g1, g2⟩ := rowN3 HYV.out
    have hl0 := HYV.out.lt
    have hl2b := SM.out.row.lt
    obtain ⟨a1', c1', e1, hq, _⟩ := own_ns SM.out.own
    cases e1
    have HQ3 := Lib.hid hq
    clear hq
    have zr := Lib.hid (lput3 HYV.out rfl (.int .i64 m.seq) (.slice a5 m.notes.length k5) (.int .i64 m.gaps))
    have zb := Lib.hid (lbel3 HBV.out (g := w.heap.size + 1) (by omega) (.int .i64 m.seq) (.slice a5 m.notes.length k5) (.int .i64 m.gaps))
    have zq : Hid (NqOwn 37 w.heap.size m.notes.length a5 (Ln.fl m.notes) ((((V.setCell ⟨w.heap.size + 1, 0, none⟩ (.int .i64 m.seq)).setCell ⟨w.heap.size + 1, 1, none⟩ (.slice a5 m.notes.length k5)).setCell ⟨w.heap.size + 1, 2, none⟩ (.int .i64 m.gaps)))) := (HQ3.out.same (fun k hk _ => lblk3 (by omega) _ _ _)).low (by omega)
    rw [HV.out] at z0 z1 z2 p0 p1 p2 y0 y1 y2 g0 g1 g2 zr zb zq hl0 hl2b
    clear HV HQ3 SM HYV HXV HBV
    go_wp2_with fail
    refine bodyPost_ret (v := maV m a5 k5) ?_ rfl ⟨by rw [HE.out]; exact ⟨a5, k5, rfl, zq.out⟩, zb.out⟩
    obtain ⟨⟨u0, u1, u2⟩, _⟩ := rowN3 zr.out
    simp only [results, Tryz.results13]
    simp [go_sem, u0, u1, u2, maV]
  by_cases kk2 : (200 : Int) < (N0 : Int)
  · have HE : Hid (m.take u t.data.toList = m) := Ln.M.take_no (fun h => by have := h.1.2.1; have := HN0.out; omega)
    obtain ⟨⟨z0, z1, z2⟩, p0, p1, p2⟩ := rowN3 SM.out.row
    obtain ⟨⟨y0, y1, y2⟩, g0, g1, g2⟩ := rowN3 HYV.out
    have hl0 := HYV.out.lt
    have hl2b := SM.out.row.lt
    obtain ⟨a1', c1', e1, hq, _⟩ := own_ns SM.out.own
    cases e1
    have HQ3 := Lib.hid hq
    clear hq
    have zr := Lib.hid (lput3 HYV.out rfl (.int .i64 m.seq) (.slice a5 m.notes.length k5) (.int .i64 m.gaps))
    have zb := Lib.hid (lbel3 HBV.out (g := w.heap.size + 1) (by omega) (.int .i64 m.seq) (.slice a5 m.notes.length k5) (.int .i64 m.gaps))
    have zq : Hid (NqOwn 37 w.heap.size m.notes.length a5 (Ln.fl m.notes) ((((V.setCell ⟨w.heap.size + 1, 0, none⟩ (.int .i64 m.seq)).setCell ⟨w.heap.size + 1, 1, none⟩ (.slice a5 m.notes.length k5)).setCell ⟨w.heap.size + 1, 2, none⟩ (.int .i64 m.gaps)))) := (HQ3.out.same (fun k hk _ => lblk3 (by omega) _ _ _)).low (by omega)
    rw [HV.out] at z0 z1 z2 p0 p1 p2 y0 y1 y2 g0 g1 g2 zr zb zq hl0 hl2b
    clear HV HQ3 SM HYV HXV HBV
    go_wp2_with fail
    refine bodyPost_ret (v := maV m a5 k5) ?_ rfl ⟨by rw [HE.out]; exact ⟨a5, k5, rfl, zq.out⟩, zb.out⟩
    obtain ⟨⟨u0, u1, u2⟩, _⟩ := rowN3 zr.out
    simp only [results, Tryz.results13]
    simp [go_sem, u0, u1, u2, maV]
  by_cases kk3 : m.gaps < 0
  · have HE : Hid (m.take u t.data.toList = m) := Ln.M.take_no (fun h => by have := h.1.2.2; omega)
    obtain ⟨⟨z0, z1, z2⟩, p0, p1, p2⟩ := rowN3 SM.out.row
    obtain ⟨⟨y0, y1, y2⟩, g0, g1, g2⟩ := rowN3 HYV.out
    have hl0 := HYV.out.lt
    have hl2b := SM.out.row.lt
    obtain ⟨a1', c1', e1, hq, _⟩ := own_ns SM.out.own
    cases e1
    have HQ3 := Lib.hid hq
    clear hq
    have zr := Lib.hid (lput3 HYV.out rfl (.int .i64 m.seq) (.slice a5 m.notes.length k5) (.int .i64 m.gaps))
    have zb := Lib.hid (lbel3 HBV.out (g := w.heap.size + 1) (by omega) (.int .i64 m.seq) (.slice a5 m.notes.length k5) (.int .i64 m.gaps))
    have zq : Hid (NqOwn 37 w.heap.size m.notes.length a5 (Ln.fl m.notes) ((((V.setCell ⟨w.heap.size + 1, 0, none⟩ (.int .i64 m.seq)).setCell ⟨w.heap.size + 1, 1, none⟩ (.slice a5 m.notes.length k5)).setCell ⟨w.heap.size + 1, 2, none⟩ (.int .i64 m.gaps)))) := (HQ3.out.same (fun k hk _ => lblk3 (by omega) _ _ _)).low (by omega)
    rw [HV.out] at z0 z1 z2 p0 p1 p2 y0 y1 y2 g0 g1 g2 zr zb zq hl0 hl2b
    clear HV HQ3 SM HYV HXV HBV
    go_wp2_with fail
    refine bodyPost_ret (v := maV m a5 k5) ?_ rfl ⟨by rw [HE.out]; exact ⟨a5, k5, rfl, zq.out⟩, zb.out⟩
    obtain ⟨⟨u0, u1, u2⟩, _⟩ := rowN3 zr.out
    simp only [results, Tryz.results13]
    simp [go_sem, u0, u1, u2, maV]
  by_cases kk4 : 1000000000 < m.gaps
  · have HE : Hid (m.take u t.data.toList = m) := Ln.M.take_no (fun h => by have := h.1.2.2; omega)
    obtain ⟨⟨z0, z1, z2⟩, p0, p1, p2⟩ := rowN3 SM.out.row
    obtain ⟨⟨y0, y1, y2⟩, g0, g1, g2⟩ := rowN3 HYV.out
    have hl0 := HYV.out.lt
    have hl2b := SM.out.row.lt
    obtain ⟨a1', c1', e1, hq, _⟩ := own_ns SM.out.own
    cases e1
    have HQ3 := Lib.hid hq
    clear hq
    have zr := Lib.hid (lput3 HYV.out rfl (.int .i64 m.seq) (.slice a5 m.notes.length k5) (.int .i64 m.gaps))
    have zb := Lib.hid (lbel3 HBV.out (g := w.heap.size + 1) (by omega) (.int .i64 m.seq) (.slice a5 m.notes.length k5) (.int .i64 m.gaps))
    have zq : Hid (NqOwn 37 w.heap.size m.notes.length a5 (Ln.fl m.notes) ((((V.setCell ⟨w.heap.size + 1, 0, none⟩ (.int .i64 m.seq)).setCell ⟨w.heap.size + 1, 1, none⟩ (.slice a5 m.notes.length k5)).setCell ⟨w.heap.size + 1, 2, none⟩ (.int .i64 m.gaps)))) := (HQ3.out.same (fun k hk _ => lblk3 (by omega) _ _ _)).low (by omega)
    rw [HV.out] at z0 z1 z2 p0 p1 p2 y0 y1 y2 g0 g1 g2 zr zb zq hl0 hl2b
    clear HV HQ3 SM HYV HXV HBV
    go_wp2_with fail
    refine bodyPost_ret (v := maV m a5 k5) ?_ rfl ⟨by rw [HE.out]; exact ⟨a5, k5, rfl, zq.out⟩, zb.out⟩
    obtain ⟨⟨u0, u1, u2⟩, _⟩ := rowN3 zr.out
    simp only [results, Tryz.results13]
    simp [go_sem, u0, u1, u2, maV]
  by_cases kk5 : (20000 : Int) < (t.size : Int)
  · have HE : Hid (m.take u t.data.toList = m) := Ln.M.take_no (fun h => by have e : t.data.toList.length = t.size := rfl; have := h.2; omega)
    obtain ⟨⟨z0, z1, z2⟩, p0, p1, p2⟩ := rowN3 SM.out.row
    obtain ⟨⟨y0, y1, y2⟩, g0, g1, g2⟩ := rowN3 HYV.out
    have hl0 := HYV.out.lt
    have hl2b := SM.out.row.lt
    obtain ⟨a1', c1', e1, hq, _⟩ := own_ns SM.out.own
    cases e1
    have HQ3 := Lib.hid hq
    clear hq
    have zr := Lib.hid (lput3 HYV.out rfl (.int .i64 m.seq) (.slice a5 m.notes.length k5) (.int .i64 m.gaps))
    have zb := Lib.hid (lbel3 HBV.out (g := w.heap.size + 1) (by omega) (.int .i64 m.seq) (.slice a5 m.notes.length k5) (.int .i64 m.gaps))
    have zq : Hid (NqOwn 37 w.heap.size m.notes.length a5 (Ln.fl m.notes) ((((V.setCell ⟨w.heap.size + 1, 0, none⟩ (.int .i64 m.seq)).setCell ⟨w.heap.size + 1, 1, none⟩ (.slice a5 m.notes.length k5)).setCell ⟨w.heap.size + 1, 2, none⟩ (.int .i64 m.gaps)))) := (HQ3.out.same (fun k hk _ => lblk3 (by omega) _ _ _)).low (by omega)
    rw [HV.out] at z0 z1 z2 p0 p1 p2 y0 y1 y2 g0 g1 g2 zr zb zq hl0 hl2b
    clear HV HQ3 SM HYV HXV HBV
    go_wp2_with fail
    refine bodyPost_ret (v := maV m a5 k5) ?_ rfl ⟨by rw [HE.out]; exact ⟨a5, k5, rfl, zq.out⟩, zb.out⟩
    obtain ⟨⟨u0, u1, u2⟩, _⟩ := rowN3 zr.out
    simp only [results, Tryz.results13]
    simp [go_sem, u0, u1, u2, maV]
  have HMR : Hid m.Right := ⟨⟨by omega, by omega⟩, by have := HN0.out; omega, by omega, by omega⟩
  have hts : t.size ≤ 20000 := by omega
  have HTS : Hid (t.data.toList.length ≤ 20000) := hts
  go_wp2_with fail
  rw [← HV.out]
  clear HV x0 x1 x2 zz0 zz1 zz2 pp0 pp1 pp2 hl2
  refine (specScan_any t hts _).mono ?_
  rintro e W4 ⟨v4, rfl, hown4, hb⟩
  obtain ⟨os, hos⟩ : ∃ os, os = (Fr.scan t.data.toList).1 := ⟨_, rfl⟩
  rw [← hos] at hown4
  obtain ⟨fa, fc, rfl, hfr⟩ := fr_row hown4 rfl
  have HGD : Hid (∀ o ∈ os, Ln.Good o) := by show ∀ o ∈ os, _; rw [hos]; exact Ln.scan_good _
  have HE : Hid (m.take u t.data.toList = os.foldl (Ln.M.frame u) m) := by show _ = _; rw [hos]; exact Ln.M.take_yes HMR.out HTS.out
  have SM4 := Lib.hid (SM.out.below hb)
  have HY4 := Lib.hid (nrow_below HYV.out hb)
  have HB4 : Hid (Below w.heap.size w W4) := HBV.out.trans (hb.mono HBV.out.size)
  have HFR : Hid (os.length = 0 ∨ ∃ g M F, fa = some ⟨g, 0, none⟩ ∧ g ≠ w.heap.size + 1 + 1 ∧ W4.rowIs g 70 M F ∧ os.length * 4 ≤ M ∧ ∀ i (hi : i < os.length), F (i * 4) = .int .i64 os[i].u ∧ F (i * 4 + 1) = .int .i64 os[i].k ∧ F (i * 4 + 2) = .int .i64 os[i].s ∧ F (i * 4 + 3) = .string ⟨os[i].b.toArray⟩) := by
    rcases hfr with h | ⟨g, M, F, h1, h2, h3⟩
    · exact Or.inl h
    · exact Or.inr ⟨g, M, F, h1, by have := SM.out.row.lt; omega, h3⟩
  have hosl : os.length ≤ 20000 := by rw [hos]; have := scan_len t.data.toList; have := HTS.out; omega
  obtain ⟨N, hN⟩ : ∃ N, N = os.length := ⟨_, rfl⟩
  have HNN := Lib.hid hN
  rw [← hN] at hosl ⊢
  clear hb hos hown4 hfr hN SM HYV HXV HBV hts
  have hfd := fun x y => frames_field fa N fc x y 0
  go_wp2_with fail
  clear hfd
  go_loopw [9, 10, 11] (fun iv _ _ wr => ∃ (i : Nat) (mi : Ln.M) (ai : Option Addr) (ki : Nat), i ≤ N ∧ iv = .int .i64 i ∧ Hid (mi = (os.take i).foldl (Ln.M.frame u) m) ∧ Hid mi.Mid ∧ Hid (MaS (w.heap.size + 1 + 1) (w.heap.size + 3) (maL mi ai ki) mi.notes ai ki W4 wr)) (fun iv _ _ _ => N - (intOf iv).toNat)
  case atStart => exact ⟨0, m, a5, k5, Nat.zero_le _, rfl, rfl, HMR.out.mid, ⟨SM4.out.row, SM4.out.own, Below.refl _ _, fun _ _ _ _ h _ _ => h, SM4.out.num⟩⟩
  case round =>
    obtain ⟨i, mi, ai, ki, hiN, rfl, hmi, hmid, hS⟩ := hrel
    by_cases hlt : i < N
    · have hltz : (i : Int) < (N : Int) := by omega
      have HIL : i < os.length := by rw [← HNN.out]; exact hlt
      obtain ⟨g, M, F, hfa, hgp, hFr, hM, hFc⟩ : ∃ g M F, fa = some ⟨g, 0, none⟩ ∧ g ≠ w.heap.size + 1 + 1 ∧ W4.rowIs g 70 M F ∧ os.length * 4 ≤ M ∧ ∀ i (hi : i < os.length), F (i * 4) = .int .i64 os[i].u ∧ F (i * 4 + 1) = .int .i64 os[i].k ∧ F (i * 4 + 2) = .int .i64 os[i].s ∧ F (i * 4 + 3) = .string ⟨os[i].b.toArray⟩ := by
        rcases HFR.out with h | h
        · omega
        · exact h
      obtain ⟨o, ho⟩ : ∃ o, o = os[i] := ⟨_, rfl⟩
      have HGO : Hid (Ln.Good o) := by show Ln.Good o; rw [ho]; exact HGD.out _ (List.getElem_mem HIL)
      have hmi1 : Hid (Ln.M.frame u mi o = (os.take (i + 1)).foldl (Ln.M.frame u) m) := by show _ = _; rw [fold_take u os m i HIL, ← hmi.out, ho]
      obtain ⟨c0, c1, c2, c3⟩ := hFc i HIL
      rw [← ho] at c0 c1 c2 c3
      have HQ : Hid (∀ Y : World, Y.rowIs g 70 M F → Y.cell? ⟨g, i * 4, none⟩ = some (.int .i64 o.u) ∧ Y.cell? ⟨g, i * 4 + 1, none⟩ = some (.int .i64 o.k) ∧ Y.cell? ⟨g, i * 4 + 2, none⟩ = some (.int .i64 o.s) ∧ Y.cell? ⟨g, i * 4 + 3, none⟩ = some (.string ⟨o.b.toArray⟩)) := fun Y hy => ⟨by rw [hy.cell (i := i * 4) (by omega), c0], by rw [hy.cell (i := i * 4 + 1) (by omega), c1], by rw [hy.cell (i := i * 4 + 2) (by omega), c2], by rw [hy.cell (i := i * 4 + 3) (by omega), c3]⟩
      have HFRW : Hid (W4.rowIs g 70 M F) := hFr
      have HGP : Hid (g ≠ w.heap.size + 1 + 1) := hgp
      obtain ⟨q0, q1, q2, q3⟩ := HQ.out _ (hS.out.oth g _ _ _ hFr (by decide) hgp)
      subst hfa
      clear c0 c1 c2 c3 hFr hM hFc HIL ho hgp
      go_wp2_with fail
      refine (num_any ⟨o.b.toArray⟩ _).mono ?_
      rintro e w5 ⟨hE, hb⟩
      have hE' : NumEnd o.b e := hE
      obtain ⟨n, b, hnum, rfl⟩ := hE'
      have HNU := Lib.hid hnum
      have nb1 := hnum.1
      have nb2 := hnum.2.1
      have SV5 := Lib.hid (hS.out.below hb)
      clear hE hb hS q0 q1 q2 q3 hnum
      obtain ⟨ML, hML⟩ : ∃ ML, ML = mi.notes.length := ⟨_, rfl⟩
      have HML := Lib.hid hML
      have hml : ML ≤ 200 := by rw [hML]; exact hmid.out.2.1
      have hmlz : (ML : Int) ≤ 200 := by omega
      obtain ⟨⟨mm1, mm2⟩, _, mm4, mm5⟩ := hmid.out
      have hgo := HGO.out
      obtain ⟨go1, go2, _⟩ := hgo
      clear hML
      obtain ⟨⟨z0, z1, z2⟩, p0, p1, p2⟩ := rowN3 SV5.out.row
      rw [← HML.out] at z1
      obtain ⟨q0, q1, q2, q3⟩ := HQ.out _ (SV5.out.oth g _ _ _ HFRW.out (by decide) HGP.out)
      have KV := Lib.hid (fun wx => sval19_any n wx)
      have HDR : Hid (∀ nq, MaS (w.heap.size + 1 + 1) (w.heap.size + 3) (maL mi ai ki) mi.notes ai ki W4 (w5.drewN nq)) := fun nq => SV5.out.below (ndrewN (Below.refl _ _) nq)
      by_cases e1 : o.u = u
      case neg =>
        have d1 : (o.u != u) = true := by simpa using e1
        have HFE : Hid (Ln.M.frame u mi o = mi) := by show _ = _; unfold Ln.M.frame; rw [noteOf_none (fun _ _ _ h _ _ => e1 h)]
        go_wp2_with fail
        go_quiet (fail)
        go_wp2_with fail
        go_roundw
        case rel => exact ⟨i + 1, mi, ai, ki, by omega, by go_num, by rw [← HFE.out]; exact hmi1, hmid, HDR.out _⟩
        case measure => simp [intOf]; omega
      have d1 : (o.u != u) = false := by simpa using e1
      by_cases e2 : o.k = 3
      case neg =>
        have d2 : (o.k != 3) = true := by simpa using e2
        have HFE : Hid (Ln.M.frame u mi o = mi) := by show _ = _; unfold Ln.M.frame; rw [noteOf_none (fun _ _ _ _ h _ => e2 h)]
        go_wp2_with fail
        go_quiet (fail)
        go_wp2_with fail
        go_roundw
        case rel => exact ⟨i + 1, mi, ai, ki, by omega, by go_num, by rw [← HFE.out]; exact hmi1, hmid, HDR.out _⟩
        case measure => simp [intOf]; omega
      have d2 : (o.k != 3) = false := by simpa using e2
      cases b with
      | false =>
        clear e1 e2
        have HFE : Hid (Ln.M.frame u mi o = mi) := by show _ = _; unfold Ln.M.frame; rw [noteOf_nonum HNU.out (fun h => by have := h.1; cases this)]
        go_wp2_with fail
        go_quiet (fail)
        go_wp2_with fail
        go_roundw
        case rel => exact ⟨i + 1, mi, ai, ki, by omega, by go_num, by rw [← HFE.out]; exact hmi1, hmid, HDR.out _⟩
        case measure => simp [intOf]; omega
      | true =>
        by_cases e3 : -1000000 ≤ n ∧ n ≤ 1000000
        case neg =>
          rw [decide_eq_false e3] at KV
          have HFE : Hid (Ln.M.frame u mi o = mi) := by show _ = _; unfold Ln.M.frame; rw [noteOf_nonum HNU.out (fun h => e3 h.2)]
          clear e1 e2 e3
          go_wp2_with fail
          go_quiet ((go_at_call 11; exact Calls.quiet_of_same (KV.out _)))
          go_wp2_with fail
          go_roundw
          case rel => exact ⟨i + 1, mi, ai, ki, by omega, by go_num, by rw [← HFE.out]; exact hmi1, hmid, HDR.out _⟩
          case measure => simp [intOf]; omega
        rw [decide_eq_true e3] at KV
        have HNO : Hid (Ln.noteOf u o = some (o.s, n)) := noteOf_num HNU.out e1 e2 rfl e3.1 e3.2
        clear e1 e2 e3
        by_cases e4 : o.s ≤ mi.seq
        · have d4 : decide (o.s ≤ mi.seq) = true := by simpa using e4
          have HFE : Hid (Ln.M.frame u mi o = mi) := by show _ = _; unfold Ln.M.frame; rw [HNO.out]; show mi.put (o.s, n) = mi; unfold Ln.M.put; rw [if_neg (fun h => by have := h.1; simp only at this; omega)]
          go_wp2_with fail
          go_quiet ((go_at_call 11; exact Calls.quiet_of_same (KV.out _)))
          go_wp2_with fail
          go_roundw
          case rel => exact ⟨i + 1, mi, ai, ki, by omega, by go_num, by rw [← HFE.out]; exact hmi1, hmid, HDR.out _⟩
          case measure => simp [intOf]; omega
        have d4 : decide (o.s ≤ mi.seq) = false := by simpa using e4
        by_cases e5 : 200 ≤ ML
        · have d5 : decide ((200 : Int) ≤ (ML : Int)) = true := by simp; omega
          have HFE : Hid (Ln.M.frame u mi o = mi) := by show _ = _; unfold Ln.M.frame; rw [HNO.out]; show mi.put (o.s, n) = mi; unfold Ln.M.put; rw [if_neg (fun h => by have := h.2; have := HML.out; omega)]
          go_wp2_with fail
          go_quiet ((go_at_call 11; exact Calls.quiet_of_same (KV.out _)))
          go_wp2_with fail
          go_roundw
          case rel => exact ⟨i + 1, mi, ai, ki, by omega, by go_num, by rw [← HFE.out]; exact hmi1, hmid, HDR.out _⟩
          case measure => simp [intOf]; omega
        have d5 : decide ((200 : Int) ≤ (ML : Int)) = false := by simp; omega
        have HFE : Hid (Ln.M.frame u mi o = ⟨o.s, mi.notes ++ [(o.s, n)], mi.gaps + o.s - mi.seq - 1⟩) := by show _ = _; unfold Ln.M.frame; rw [HNO.out]; show mi.put (o.s, n) = _; unfold Ln.M.put; rw [if_pos ⟨by simp only; omega, by have := HML.out; omega⟩]
        have HMID : Hid (Ln.M.Mid ⟨o.s, mi.notes ++ [(o.s, n)], mi.gaps + o.s - mi.seq - 1⟩) := by show Ln.M.Mid _; rw [← HFE.out]; exact hmid.out.frame HGO.out
        go_wp2_with fail
        go_quiet ((go_at_call 11; exact Calls.quiet_of_same (KV.out _)))
        obtain ⟨V6, hV6⟩ : ∃ V6, V6 = w5.drewN nq := ⟨_, rfl⟩
        have S6 : Hid (MaS (w.heap.size + 1 + 1) (w.heap.size + 3) (maL mi ai ki) mi.notes ai ki W4 V6) := by show MaS _ _ _ _ _ _ _ _; rw [hV6]; exact HDR.out _
        rw [← hV6]
        clear hV6 HDR SV5 z0 z1 z2 p0 p1 p2 q0 q1 q2 q3 KV d1 d2 d4 d5
        go_wp2_with fail
        refine wp_region_held_drew (S := fun Y => Y.rowIs g 70 M F) (by kernel_rfl) ((S6.out.oth g _ _ _ HFRW.out (by decide) HGP.out).of_block rfl) (fun hHeld => ?_)
        obtain ⟨Z, hZ⟩ : ∃ Z, Z = V6.drew := ⟨_, rfl⟩
        have SZ : Hid (MaS (w.heap.size + 1 + 1) (w.heap.size + 3) (maL mi ai ki) mi.notes ai ki W4 Z) := by show MaS _ _ _ _ _ _ _ _; rw [hZ]; exact S6.out.below (Below.refl _ _).drew
        rw [← hZ] at hHeld ⊢
        clear hZ S6
        refine take_do (i := 0) (v := (.pointer (some ⟨w.heap.size + 1 + 1, 1, none⟩))) rfl (by kernel_rfl) (by kernel_rfl) (by kernel_rfl) (fun _ _ _ h => h) (by rfl) ?_ (by assumption) ?_
        · intro w hSw
          go_simp
        simp only [Act.put, List.setIfInBounds_toArray, List.set_cons_zero, List.set_cons_succ]
        refine take_do (i := 2) (v := (.slice (some ⟨g, 0, none⟩) N fc)) rfl (by kernel_rfl) (by kernel_rfl) (by kernel_rfl) (fun _ _ _ h => h) (by rfl) ?_ (by assumption) ?_
        · intro w hSw
          go_simp
        simp only [Act.put, List.setIfInBounds_toArray, List.set_cons_zero, List.set_cons_succ]
        refine take_do (i := 3) (v := (.int .i64 i)) rfl (by kernel_rfl) (by kernel_rfl) (by kernel_rfl) (fun _ _ _ h => h) (by rfl) ?_ (by assumption) ?_
        · intro w hSw
          go_simp
        simp only [Act.put, List.setIfInBounds_toArray, List.set_cons_zero, List.set_cons_succ]
        refine take_do (i := 4) (v := (.pointer (some ⟨g, i * 4, none⟩))) rfl (by kernel_rfl) (by kernel_rfl) (by kernel_rfl) (fun _ _ _ h => h) (by rfl) ?_ (by assumption) ?_
        · intro w hSw
          go_simp
        simp only [Act.put, List.setIfInBounds_toArray, List.set_cons_zero, List.set_cons_succ]
        refine take_do (i := 5) (v := (.pointer (some ⟨g, i * 4 + 2, none⟩))) rfl (by kernel_rfl) (by kernel_rfl) (by kernel_rfl) (fun _ _ _ h => h) (by rfl) ?_ (by assumption) ?_
        · intro w hSw
          go_simp
        simp only [Act.put, List.setIfInBounds_toArray, List.set_cons_zero, List.set_cons_succ]
        refine take_do (i := 6) (v := (.int .i64 o.s)) rfl (by kernel_rfl) (by kernel_rfl) (by kernel_rfl) (fun _ _ _ h => h) (by rfl) ?_ (by assumption) ?_
        · intro w hSw
          obtain ⟨q0, q1, q2, q3⟩ := HQ.out _ hSw
          go_simp
        simp only [Act.put, List.setIfInBounds_toArray, List.set_cons_zero, List.set_cons_succ]
        refine take_do (i := 7) (v := (.int .i64 n)) rfl (by kernel_rfl) (by kernel_rfl) (by kernel_rfl) (fun _ _ _ h => h) (by rfl) ?_ (by assumption) ?_
        · intro w hSw
          go_simp
        simp only [Act.put, List.setIfInBounds_toArray, List.set_cons_zero, List.set_cons_succ]
        refine take_do (i := 8) (v := (.agg #[.int .i64 o.s, .int .i64 n])) rfl (by kernel_rfl) (by kernel_rfl) (by kernel_rfl) (fun _ _ _ h => h) (by rfl) ?_ (by assumption) ?_
        · intro w hSw
          go_simp
        simp only [Act.put, List.setIfInBounds_toArray, List.set_cons_zero, List.set_cons_succ]
        refine wpAnyH_ready (rs := [1, 9]) (by kernel_rfl) (by simp) (AllReadyH.cons (at_drop (i := 1) rfl) (fun K2 hK => ?_) (AllReadyH.cons (at_drop (i := 9) rfl) (fun K2 hK => ?_) AllReadyH.nil))
        · obtain ⟨⟨x0, x1, x2⟩, _⟩ := rowN3 SZ.out.row
          rw [← HML.out] at x1
          go_simp
          refine hK.out _ _ hHeld (fun hHeld2 => ?_)
          clear hK hHeld x0 x1 x2
          have hHeld := hHeld2
          clear hHeld2
          refine take_call (i := 9) rfl (by kernel_rfl) (fun K2 hK => ?_)
          obtain ⟨Z1, hZ1⟩ : ∃ Z1, Z1 = Z.alloc (.cells #[.int .i64 o.s, .int .i64 n] 37) := ⟨_, rfl⟩
          have hb : Below Z.heap.size Z Z1 := by rw [hZ1]; exact nbel_alloc _ _
          obtain ⟨gx, hgx⟩ : ∃ gx, gx = Z.heap.size := ⟨_, rfl⟩
          have HM1 : Hid (IsIn (some ⟨gx, 0, none⟩) (([(o.s, n)] : List Ln.Nt).length * 2) (Ln.fl [(o.s, n)]) Z1) := by show IsIn _ _ _ _; rw [hZ1, hgx]; exact one_in Z 37 o.s n
          have SZ1 := Lib.hid (SZ.out.below hb)
          go_simp
          rw [← hZ1, ← hgx]
          refine hK.out _ _ (nrow_below hHeld hb) (fun hHeld2 => ?_)
          clear hK hHeld hb hZ1 hgx
          have hHeld := hHeld2
          clear hHeld2
          refine take_call (i := 10) rfl (by kernel_rfl) (fun K2 hK => ?_)
          refine step_append_ns rfl (.tmp 107) (.tmp 115) 26 rfl 37 i0 (.agg #[.int .i64 0, .int .i64 0]) 16 Tryz.underlying26 hi hz0 hz1 hz2 rfl (w.heap.size + 3) (.slice ai ML ki) mi.notes [(o.s, n)] rfl (by rw [HML.out]; exact SZ1.out.own) (some ⟨gx, 0, none⟩) 1 rfl HM1.out (by unfold maxLen; rw [← HML.out]; simp; omega) (by rw [← HML.out]; simp; omega) SZ1.out.num.2 ?_
          intro v6 Z2 hown hgrow
          obtain ⟨L2, hL2⟩ : ∃ L2, L2 = mi.notes ++ [(o.s, n)] := ⟨_, rfl⟩
          have hown2 : Z2.ownsRow (w.heap.size + 3) 37 2 v6 L2.length (nvs L2) := by rw [hL2]; exact hown
          rw [HML.out] at hgrow
          obtain ⟨a6, k6, rfl, _, _⟩ := own_ns hown2
          have S5 := Lib.hid (SZ1.out.push hgrow hown2)
          refine hK.out _ _ (S5.out.oth g _ _ _ HFRW.out (by decide) HGP.out) (fun hHeld2 => ?_)
          clear hK hHeld hown hown2 hgrow SZ SZ1 HM1
          have hHeld := hHeld2
          clear hHeld2
          simp only [Act.put, List.setIfInBounds_toArray, List.set_cons_zero, List.set_cons_succ]
          refine take_do (i := 11) (v := (.pointer (some ⟨w.heap.size + 1 + 1, 1, none⟩))) rfl (by kernel_rfl) (by kernel_rfl) (by kernel_rfl) (fun _ _ _ h => h) (by rfl) ?_ (by assumption) ?_
          · intro w hSw
            go_simp
          simp only [Act.put, List.setIfInBounds_toArray, List.set_cons_zero, List.set_cons_succ]
          obtain ⟨⟨z0, z1, z2⟩, p0, p1, p2⟩ := rowN3 S5.out.row
          have hl2 := S5.out.row.lt
          obtain ⟨WZ, hWZ⟩ : ∃ WZ, WZ = Z2.setCell ⟨w.heap.size + 1 + 1, 1, none⟩ (.slice a6 L2.length k6) := ⟨_, rfl⟩
          have S7 : Hid (MaS (w.heap.size + 1 + 1) (w.heap.size + 3) [.int .i64 mi.seq, .slice a6 L2.length k6, .int .i64 mi.gaps] L2 a6 k6 W4 WZ) := by show MaS _ _ _ _ _ _ _ _; rw [hWZ]; exact S5.out.set 1 _ (by simp)
          have HWZ := Lib.hid hWZ
          have HL2 := Lib.hid hL2
          obtain ⟨M2, hM2⟩ : ∃ M2, M2 = L2.length := ⟨_, rfl⟩
          have HM2 := Lib.hid hM2
          rw [← hM2] at HWZ ⊢
          clear hWZ hL2 hM2
          refine take_call (i := 12) rfl (by kernel_rfl) (fun K2 hK => ?_)
          go_simp
          rw [← HWZ.out]
          refine hK.out _ _ (S7.out.oth g _ _ _ HFRW.out (by decide) HGP.out) (fun hHeld2 => ?_)
          clear hK hHeld hHeld2 HWZ z0 z1 z2 p0 p1 p2 hl2 S5
          refine wpAnyH_done (by kernel_rfl) ?_ _
          obtain ⟨⟨z0, z1, z2⟩, p0, p1, p2⟩ := rowN3 S7.out.row
          rw [← HM2.out] at z1
          obtain ⟨q0, q1, q2, q3⟩ := HQ.out _ (S7.out.oth g _ _ _ HFRW.out (by decide) HGP.out)
          have hl2 := S7.out.row.lt
          have hl3 := (S7.out.oth g _ _ _ HFRW.out (by decide) HGP.out).lt
          have hgx2 : ¬ g = w.heap.size + 1 + 1 := HGP.out
          have hgx3 : ¬ w.heap.size + 1 + 1 = g := fun e => HGP.out e.symm
          have r1 : IntKind.i64.wrap (mi.gaps + o.s) = mi.gaps + o.s := lnwrap (by omega) (by omega)
          have r2 : IntKind.i64.wrap (mi.gaps + o.s - mi.seq) = mi.gaps + o.s - mi.seq := lnwrap (by omega) (by omega)
          have r3 : IntKind.i64.wrap (mi.gaps + o.s - mi.seq - 1) = mi.gaps + o.s - mi.seq - 1 := lnwrap (by omega) (by omega)
          go_wp2_with fail
          go_region
          obtain ⟨U, hU⟩ : ∃ U, U = (WZ.setCell ⟨w.heap.size + 1 + 1, 2, none⟩ (.int .i64 (mi.gaps + o.s - mi.seq - 1))).drew := ⟨_, rfl⟩
          rw [← hU]
          have S8 : Hid (MaS (w.heap.size + 1 + 1) (w.heap.size + 3) [.int .i64 mi.seq, .slice a6 L2.length k6, .int .i64 (mi.gaps + o.s - mi.seq - 1)] L2 a6 k6 W4 U) := by show MaS _ _ _ _ _ _ _ _; rw [hU]; exact (S7.out.set 2 _ (by simp)).below (Below.refl _ _).drew
          clear hU S7 z0 z1 z2 p0 p1 p2 q0 q1 q2 q3 hl2 hl3
          obtain ⟨⟨z0, z1, z2⟩, p0, p1, p2⟩ := rowN3 S8.out.row
          obtain ⟨q0, q1, q2, q3⟩ := HQ.out _ (S8.out.oth g _ _ _ HFRW.out (by decide) HGP.out)
          have hl2 := S8.out.row.lt
          obtain ⟨U2, hU2⟩ : ∃ U2, U2 = U.setCell ⟨w.heap.size + 1 + 1, 0, none⟩ (.int .i64 o.s) := ⟨_, rfl⟩
          have S9 : Hid (MaS (w.heap.size + 1 + 1) (w.heap.size + 3) [.int .i64 o.s, .slice a6 L2.length k6, .int .i64 (mi.gaps + o.s - mi.seq - 1)] L2 a6 k6 W4 U2) := by show MaS _ _ _ _ _ _ _ _; rw [hU2]; exact S8.out.set 0 _ (by simp)
          have HU2 := Lib.hid hU2
          clear hU2 S8
          go_wp2_with fail
          rw [← HU2.out]
          rw [HL2.out] at S9
          clear HU2 z0 z1 z2 p0 p1 p2 q0 q1 q2 q3 hl2
          go_roundw
          case rel => exact ⟨i + 1, ⟨o.s, mi.notes ++ [(o.s, n)], mi.gaps + o.s - mi.seq - 1⟩, a6, k6, by omega, by go_num, by rw [← HFE.out]; exact hmi1, HMID, S9⟩
          case measure => simp [intOf]; omega
        · obtain ⟨Z1, hZ1⟩ : ∃ Z1, Z1 = Z.alloc (.cells #[.int .i64 o.s, .int .i64 n] 37) := ⟨_, rfl⟩
          have hb : Below Z.heap.size Z Z1 := by rw [hZ1]; exact nbel_alloc _ _
          obtain ⟨gx, hgx⟩ : ∃ gx, gx = Z.heap.size := ⟨_, rfl⟩
          have HM1 : Hid (IsIn (some ⟨gx, 0, none⟩) (([(o.s, n)] : List Ln.Nt).length * 2) (Ln.fl [(o.s, n)]) Z1) := by show IsIn _ _ _ _; rw [hZ1, hgx]; exact one_in Z 37 o.s n
          have SZ1 := Lib.hid (SZ.out.below hb)
          go_simp
          rw [← hZ1, ← hgx]
          refine hK.out _ _ (nrow_below hHeld hb) (fun hHeld2 => ?_)
          clear hK hHeld hb hZ1 hgx
          have hHeld := hHeld2
          clear hHeld2
          refine take_call (i := 1) rfl (by kernel_rfl) (fun K2 hK => ?_)
          obtain ⟨⟨x0, x1, x2⟩, _⟩ := rowN3 SZ1.out.row
          rw [← HML.out] at x1
          go_simp
          refine hK.out _ _ hHeld (fun hHeld2 => ?_)
          clear hK hHeld x0 x1 x2
          have hHeld := hHeld2
          clear hHeld2
          refine take_call (i := 10) rfl (by kernel_rfl) (fun K2 hK => ?_)
          refine step_append_ns rfl (.tmp 107) (.tmp 115) 26 rfl 37 i0 (.agg #[.int .i64 0, .int .i64 0]) 16 Tryz.underlying26 hi hz0 hz1 hz2 rfl (w.heap.size + 3) (.slice ai ML ki) mi.notes [(o.s, n)] rfl (by rw [HML.out]; exact SZ1.out.own) (some ⟨gx, 0, none⟩) 1 rfl HM1.out (by unfold maxLen; rw [← HML.out]; simp; omega) (by rw [← HML.out]; simp; omega) SZ1.out.num.2 ?_
          intro v6 Z2 hown hgrow
          obtain ⟨L2, hL2⟩ : ∃ L2, L2 = mi.notes ++ [(o.s, n)] := ⟨_, rfl⟩
          have hown2 : Z2.ownsRow (w.heap.size + 3) 37 2 v6 L2.length (nvs L2) := by rw [hL2]; exact hown
          rw [HML.out] at hgrow
          obtain ⟨a6, k6, rfl, _, _⟩ := own_ns hown2
          have S5 := Lib.hid (SZ1.out.push hgrow hown2)
          refine hK.out _ _ (S5.out.oth g _ _ _ HFRW.out (by decide) HGP.out) (fun hHeld2 => ?_)
          clear hK hHeld hown hown2 hgrow SZ SZ1 HM1
          have hHeld := hHeld2
          clear hHeld2
          simp only [Act.put, List.setIfInBounds_toArray, List.set_cons_zero, List.set_cons_succ]
          refine take_do (i := 11) (v := (.pointer (some ⟨w.heap.size + 1 + 1, 1, none⟩))) rfl (by kernel_rfl) (by kernel_rfl) (by kernel_rfl) (fun _ _ _ h => h) (by rfl) ?_ (by assumption) ?_
          · intro w hSw
            go_simp
          simp only [Act.put, List.setIfInBounds_toArray, List.set_cons_zero, List.set_cons_succ]
          obtain ⟨⟨z0, z1, z2⟩, p0, p1, p2⟩ := rowN3 S5.out.row
          have hl2 := S5.out.row.lt
          obtain ⟨WZ, hWZ⟩ : ∃ WZ, WZ = Z2.setCell ⟨w.heap.size + 1 + 1, 1, none⟩ (.slice a6 L2.length k6) := ⟨_, rfl⟩
          have S7 : Hid (MaS (w.heap.size + 1 + 1) (w.heap.size + 3) [.int .i64 mi.seq, .slice a6 L2.length k6, .int .i64 mi.gaps] L2 a6 k6 W4 WZ) := by show MaS _ _ _ _ _ _ _ _; rw [hWZ]; exact S5.out.set 1 _ (by simp)
          have HWZ := Lib.hid hWZ
          have HL2 := Lib.hid hL2
          obtain ⟨M2, hM2⟩ : ∃ M2, M2 = L2.length := ⟨_, rfl⟩
          have HM2 := Lib.hid hM2
          rw [← hM2] at HWZ ⊢
          clear hWZ hL2 hM2
          refine take_call (i := 12) rfl (by kernel_rfl) (fun K2 hK => ?_)
          go_simp
          rw [← HWZ.out]
          refine hK.out _ _ (S7.out.oth g _ _ _ HFRW.out (by decide) HGP.out) (fun hHeld2 => ?_)
          clear hK hHeld hHeld2 HWZ z0 z1 z2 p0 p1 p2 hl2 S5
          refine wpAnyH_done (by kernel_rfl) ?_ _
          obtain ⟨⟨z0, z1, z2⟩, p0, p1, p2⟩ := rowN3 S7.out.row
          rw [← HM2.out] at z1
          obtain ⟨q0, q1, q2, q3⟩ := HQ.out _ (S7.out.oth g _ _ _ HFRW.out (by decide) HGP.out)
          have hl2 := S7.out.row.lt
          have hl3 := (S7.out.oth g _ _ _ HFRW.out (by decide) HGP.out).lt
          have hgx2 : ¬ g = w.heap.size + 1 + 1 := HGP.out
          have hgx3 : ¬ w.heap.size + 1 + 1 = g := fun e => HGP.out e.symm
          have r1 : IntKind.i64.wrap (mi.gaps + o.s) = mi.gaps + o.s := lnwrap (by omega) (by omega)
          have r2 : IntKind.i64.wrap (mi.gaps + o.s - mi.seq) = mi.gaps + o.s - mi.seq := lnwrap (by omega) (by omega)
          have r3 : IntKind.i64.wrap (mi.gaps + o.s - mi.seq - 1) = mi.gaps + o.s - mi.seq - 1 := lnwrap (by omega) (by omega)
          go_wp2_with fail
          go_region
          obtain ⟨U, hU⟩ : ∃ U, U = (WZ.setCell ⟨w.heap.size + 1 + 1, 2, none⟩ (.int .i64 (mi.gaps + o.s - mi.seq - 1))).drew := ⟨_, rfl⟩
          rw [← hU]
          have S8 : Hid (MaS (w.heap.size + 1 + 1) (w.heap.size + 3) [.int .i64 mi.seq, .slice a6 L2.length k6, .int .i64 (mi.gaps + o.s - mi.seq - 1)] L2 a6 k6 W4 U) := by show MaS _ _ _ _ _ _ _ _; rw [hU]; exact (S7.out.set 2 _ (by simp)).below (Below.refl _ _).drew
          clear hU S7 z0 z1 z2 p0 p1 p2 q0 q1 q2 q3 hl2 hl3
          obtain ⟨⟨z0, z1, z2⟩, p0, p1, p2⟩ := rowN3 S8.out.row
          obtain ⟨q0, q1, q2, q3⟩ := HQ.out _ (S8.out.oth g _ _ _ HFRW.out (by decide) HGP.out)
          have hl2 := S8.out.row.lt
          obtain ⟨U2, hU2⟩ : ∃ U2, U2 = U.setCell ⟨w.heap.size + 1 + 1, 0, none⟩ (.int .i64 o.s) := ⟨_, rfl⟩
          have S9 : Hid (MaS (w.heap.size + 1 + 1) (w.heap.size + 3) [.int .i64 o.s, .slice a6 L2.length k6, .int .i64 (mi.gaps + o.s - mi.seq - 1)] L2 a6 k6 W4 U2) := by show MaS _ _ _ _ _ _ _ _; rw [hU2]; exact S8.out.set 0 _ (by simp)
          have HU2 := Lib.hid hU2
          clear hU2 S8
          go_wp2_with fail
          rw [← HU2.out]
          rw [HL2.out] at S9
          clear HU2 z0 z1 z2 p0 p1 p2 q0 q1 q2 q3 hl2
          go_roundw
          case rel => exact ⟨i + 1, ⟨o.s, mi.notes ++ [(o.s, n)], mi.gaps + o.s - mi.seq - 1⟩, a6, k6, by omega, by go_num, by rw [← HFE.out]; exact hmi1, HMID, S9⟩
          case measure => simp [intOf]; omega
    · obtain rfl : i = N := by omega
      have HE2 : Hid (m.take u t.data.toList = mi) := by show _ = _; rw [HE.out, hmi.out, HNN.out, List.take_length]
      have HYR := Lib.hid (hS.out.oth _ _ _ _ HY4.out (by decide) (by omega))
      have HBR : Hid (Below w.heap.size w wr) := HB4.out.trans (hS.out.bel.mono (by omega))
      obtain ⟨⟨z0, z1, z2⟩, p0, p1, p2⟩ := rowN3 hS.out.row
      obtain ⟨⟨y0, y1, y2⟩, g0, g1, g2⟩ := rowN3 HYR.out
      have hl2 := hS.out.row.lt
      have hl0 := HYR.out.lt
      obtain ⟨a1', c1', e1, hq, _⟩ := own_ns hS.out.own
      cases e1
      have HQ3 := Lib.hid hq
      clear hq
      obtain ⟨ML, hML⟩ : ∃ ML, ML = mi.notes.length := ⟨_, rfl⟩
      have HML := Lib.hid hML
      rw [← hML] at z1
      have zr := Lib.hid (lput3 HYR.out rfl (.int .i64 mi.seq) (.slice ai ML ki) (.int .i64 mi.gaps))
      have zb := Lib.hid (lbel3 HBR.out (g := w.heap.size + 1) (by omega) (.int .i64 mi.seq) (.slice ai ML ki) (.int .i64 mi.gaps))
      have zq : Hid (NqOwn 37 w.heap.size mi.notes.length ai (Ln.fl mi.notes) ((((wr.setCell ⟨w.heap.size + 1, 0, none⟩ (.int .i64 mi.seq)).setCell ⟨w.heap.size + 1, 1, none⟩ (.slice ai ML ki)).setCell ⟨w.heap.size + 1, 2, none⟩ (.int .i64 mi.gaps)))) := (HQ3.out.same (fun k hk _ => lblk3 (by omega) _ _ _)).low (by omega)
      clear hML
      go_wp2_with fail
      refine bodyPost_ret (v := maV mi ai ki) ?_ rfl ⟨by rw [HE2.out]; exact ⟨ai, ki, rfl, zq.out⟩, zb.out⟩
      obtain ⟨⟨u0, u1, u2⟩, _⟩ := rowN3 zr.out
      simp only [results, Tryz.results13]
      simp only [maV, ← HML.out]
      simp [go_sem, u0, u1, u2]
end Go.Proofs.YtdlojhncbgfjbaaGreatDoor
