/-
  StationNote: the program's.
-/
import Derived.Test.YtdlojhncbgfjbaaGreatDoorLnI1
import Derived.Lib.SliceRun
namespace Go.Proofs.YtdlojhncbgfjbaaGreatDoor
open Go.RowKit Go.Deep

theorem lput7 {W : World} {g : Nat} {T : TypeId} {l : List Value} (h : W.rowIs g T 7 (rowN l)) (hl : l.length = 7) (v0 v1 v2 v3 v4 v5 v6 : Value) : World.rowIs (((((((W.setCell ⟨g, 0, none⟩ v0).setCell ⟨g, 1, none⟩ v1).setCell ⟨g, 2, none⟩ v2).setCell ⟨g, 3, none⟩ v3).setCell ⟨g, 4, none⟩ v4).setCell ⟨g, 5, none⟩ v5).setCell ⟨g, 6, none⟩ v6) g T 7 (rowN [v0, v1, v2, v3, v4, v5, v6]) := by
  match l, hl with
  | [x0, x1, x2, x3, x4, x5, x6], _ => exact (rowN_put (rowN_put (rowN_put (rowN_put (rowN_put (rowN_put (rowN_put h 0 v0 (by simp)) 1 v1 (by simp)) 2 v2 (by simp)) 3 v3 (by simp)) 4 v4 (by simp)) 5 v5 (by simp)) 6 v6 (by simp))
theorem lblk7 {W : World} {g k : Nat} (h : k ≠ g) (v0 v1 v2 v3 v4 v5 v6 : Value) : (World.heap (((((((W.setCell ⟨g, 0, none⟩ v0).setCell ⟨g, 1, none⟩ v1).setCell ⟨g, 2, none⟩ v2).setCell ⟨g, 3, none⟩ v3).setCell ⟨g, 4, none⟩ v4).setCell ⟨g, 5, none⟩ v5).setCell ⟨g, 6, none⟩ v6))[k]? = W.heap[k]? := ((bihs _ _ _ h 6 v6).trans ((bihs _ _ _ h 5 v5).trans ((bihs _ _ _ h 4 v4).trans ((bihs _ _ _ h 3 v3).trans ((bihs _ _ _ h 2 v2).trans ((bihs _ _ _ h 1 v1).trans ((bihs _ _ _ h 0 v0).trans rfl)))))))
theorem lbel7 {B g : Nat} {W0 W : World} (h : Below B W0 W) (hg : B ≤ g) (v0 v1 v2 v3 v4 v5 v6 : Value) : Below B W0 (((((((W.setCell ⟨g, 0, none⟩ v0).setCell ⟨g, 1, none⟩ v1).setCell ⟨g, 2, none⟩ v2).setCell ⟨g, 3, none⟩ v3).setCell ⟨g, 4, none⟩ v4).setCell ⟨g, 5, none⟩ v5).setCell ⟨g, 6, none⟩ v6) := (((((((h.setCell (p := ⟨g, 0, none⟩) hg v0).setCell (p := ⟨g, 1, none⟩) hg v1).setCell (p := ⟨g, 2, none⟩) hg v2).setCell (p := ⟨g, 3, none⟩) hg v3).setCell (p := ⟨g, 4, none⟩) hg v4).setCell (p := ⟨g, 5, none⟩) hg v5).setCell (p := ⟨g, 6, none⟩) hg v6)
theorem lsz7 {W : World} {g : Nat} (v0 v1 v2 v3 v4 v5 v6 : Value) : (World.heap (((((((W.setCell ⟨g, 0, none⟩ v0).setCell ⟨g, 1, none⟩ v1).setCell ⟨g, 2, none⟩ v2).setCell ⟨g, 3, none⟩ v3).setCell ⟨g, 4, none⟩ v4).setCell ⟨g, 5, none⟩ v5).setCell ⟨g, 6, none⟩ v6)).size = W.heap.size := by simp
theorem lput3 {W : World} {g : Nat} {T : TypeId} {l : List Value} (h : W.rowIs g T 3 (rowN l)) (hl : l.length = 3) (v0 v1 v2 : Value) : World.rowIs (((W.setCell ⟨g, 0, none⟩ v0).setCell ⟨g, 1, none⟩ v1).setCell ⟨g, 2, none⟩ v2) g T 3 (rowN [v0, v1, v2]) := by
  match l, hl with
  | [x0, x1, x2], _ => exact (rowN_put (rowN_put (rowN_put h 0 v0 (by simp)) 1 v1 (by simp)) 2 v2 (by simp))
theorem lblk3 {W : World} {g k : Nat} (h : k ≠ g) (v0 v1 v2 : Value) : (World.heap (((W.setCell ⟨g, 0, none⟩ v0).setCell ⟨g, 1, none⟩ v1).setCell ⟨g, 2, none⟩ v2))[k]? = W.heap[k]? := ((bihs _ _ _ h 2 v2).trans ((bihs _ _ _ h 1 v1).trans ((bihs _ _ _ h 0 v0).trans rfl)))
theorem lbel3 {B g : Nat} {W0 W : World} (h : Below B W0 W) (hg : B ≤ g) (v0 v1 v2 : Value) : Below B W0 (((W.setCell ⟨g, 0, none⟩ v0).setCell ⟨g, 1, none⟩ v1).setCell ⟨g, 2, none⟩ v2) := (((h.setCell (p := ⟨g, 0, none⟩) hg v0).setCell (p := ⟨g, 1, none⟩) hg v1).setCell (p := ⟨g, 2, none⟩) hg v2)
theorem lsz3 {W : World} {g : Nat} (v0 v1 v2 : Value) : (World.heap (((W.setCell ⟨g, 0, none⟩ v0).setCell ⟨g, 1, none⟩ v1).setCell ⟨g, 2, none⟩ v2)).size = W.heap.size := by simp
theorem lput11 {W : World} {g : Nat} {T : TypeId} {l : List Value} (h : W.rowIs g T 11 (rowN l)) (hl : l.length = 11) (v0 v1 v2 v3 v4 v5 v6 v7 v8 v9 v10 : Value) : World.rowIs (((((((((((W.setCell ⟨g, 0, none⟩ v0).setCell ⟨g, 1, none⟩ v1).setCell ⟨g, 2, none⟩ v2).setCell ⟨g, 3, none⟩ v3).setCell ⟨g, 4, none⟩ v4).setCell ⟨g, 5, none⟩ v5).setCell ⟨g, 6, none⟩ v6).setCell ⟨g, 7, none⟩ v7).setCell ⟨g, 8, none⟩ v8).setCell ⟨g, 9, none⟩ v9).setCell ⟨g, 10, none⟩ v10) g T 11 (rowN [v0, v1, v2, v3, v4, v5, v6, v7, v8, v9, v10]) := by
  match l, hl with
  | [x0, x1, x2, x3, x4, x5, x6, x7, x8, x9, x10], _ => exact (rowN_put (rowN_put (rowN_put (rowN_put (rowN_put (rowN_put (rowN_put (rowN_put (rowN_put (rowN_put (rowN_put h 0 v0 (by simp)) 1 v1 (by simp)) 2 v2 (by simp)) 3 v3 (by simp)) 4 v4 (by simp)) 5 v5 (by simp)) 6 v6 (by simp)) 7 v7 (by simp)) 8 v8 (by simp)) 9 v9 (by simp)) 10 v10 (by simp))
theorem lblk11 {W : World} {g k : Nat} (h : k ≠ g) (v0 v1 v2 v3 v4 v5 v6 v7 v8 v9 v10 : Value) : (World.heap (((((((((((W.setCell ⟨g, 0, none⟩ v0).setCell ⟨g, 1, none⟩ v1).setCell ⟨g, 2, none⟩ v2).setCell ⟨g, 3, none⟩ v3).setCell ⟨g, 4, none⟩ v4).setCell ⟨g, 5, none⟩ v5).setCell ⟨g, 6, none⟩ v6).setCell ⟨g, 7, none⟩ v7).setCell ⟨g, 8, none⟩ v8).setCell ⟨g, 9, none⟩ v9).setCell ⟨g, 10, none⟩ v10))[k]? = W.heap[k]? := ((bihs _ _ _ h 10 v10).trans ((bihs _ _ _ h 9 v9).trans ((bihs _ _ _ h 8 v8).trans ((bihs _ _ _ h 7 v7).trans ((bihs _ _ _ h 6 v6).trans ((bihs _ _ _ h 5 v5).trans ((bihs _ _ _ h 4 v4).trans ((bihs _ _ _ h 3 v3).trans ((bihs _ _ _ h 2 v2).trans ((bihs _ _ _ h 1 v1).trans ((bihs _ _ _ h 0 v0).trans rfl)))))))))))
theorem lbel11 {B g : Nat} {W0 W : World} (h : Below B W0 W) (hg : B ≤ g) (v0 v1 v2 v3 v4 v5 v6 v7 v8 v9 v10 : Value) : Below B W0 (((((((((((W.setCell ⟨g, 0, none⟩ v0).setCell ⟨g, 1, none⟩ v1).setCell ⟨g, 2, none⟩ v2).setCell ⟨g, 3, none⟩ v3).setCell ⟨g, 4, none⟩ v4).setCell ⟨g, 5, none⟩ v5).setCell ⟨g, 6, none⟩ v6).setCell ⟨g, 7, none⟩ v7).setCell ⟨g, 8, none⟩ v8).setCell ⟨g, 9, none⟩ v9).setCell ⟨g, 10, none⟩ v10) := (((((((((((h.setCell (p := ⟨g, 0, none⟩) hg v0).setCell (p := ⟨g, 1, none⟩) hg v1).setCell (p := ⟨g, 2, none⟩) hg v2).setCell (p := ⟨g, 3, none⟩) hg v3).setCell (p := ⟨g, 4, none⟩) hg v4).setCell (p := ⟨g, 5, none⟩) hg v5).setCell (p := ⟨g, 6, none⟩) hg v6).setCell (p := ⟨g, 7, none⟩) hg v7).setCell (p := ⟨g, 8, none⟩) hg v8).setCell (p := ⟨g, 9, none⟩) hg v9).setCell (p := ⟨g, 10, none⟩) hg v10)
theorem lsz11 {W : World} {g : Nat} (v0 v1 v2 v3 v4 v5 v6 v7 v8 v9 v10 : Value) : (World.heap (((((((((((W.setCell ⟨g, 0, none⟩ v0).setCell ⟨g, 1, none⟩ v1).setCell ⟨g, 2, none⟩ v2).setCell ⟨g, 3, none⟩ v3).setCell ⟨g, 4, none⟩ v4).setCell ⟨g, 5, none⟩ v5).setCell ⟨g, 6, none⟩ v6).setCell ⟨g, 7, none⟩ v7).setCell ⟨g, 8, none⟩ v8).setCell ⟨g, 9, none⟩ v9).setCell ⟨g, 10, none⟩ v10)).size = W.heap.size := by simp
theorem linfo_note : (Tryz.prog.info? 37).map (fun i => (i.zero, i.size, i.bytes)) = some (some (.agg #[.int .i64 0, .int .i64 0]), 2, 16) := by kernel_rfl
/-- The block of an empty station. -/
abbrev stZ : List Value := [.int .i64 0, .int .i64 0, .bool false, .int .i64 0, .int .i64 0, .slice none 0 0, .int .i64 0]
abbrev stZO : Obj := .cells #[.int .i64 0, .int .i64 0, .bool false, .int .i64 0, .int .i64 0, .slice none 0 0, .int .i64 0] 28
set_option maxRecDepth 100000 in
set_option maxHeartbeats 2000000 in
theorem cln_any (a : Option Addr) (c : Nat) (l : List Ln.Nt) (w : World) (h : IsIn a (l.length * 2) (Ln.fl l) w) (hn : l.length ≤ 1048576) :
    Calls Tryz.prog 74 #[.slice a l.length c] w fun e w' => (∃ v, e = .returned v ∧ w'.ownsRow w.heap.size 37 2 v l.length (nvs l)) ∧ Below w.heap.size w w' := by
  obtain ⟨i0, hi, hz0, hz1, hz2⟩ := info_parts linfo_note
  have q22 : ∀ (w : World) (a : Option Addr) (n c n' c' : Nat), (binOp .eql 26 (.slice a n c) (.slice none n' c')).run Tryz.prog w = .ok (.bool a.isNone) w := fun w a n c n' c' => Lib.run_eql_slice_nil w _ _ a n c n' c' Tryz.underlying26
  have H := Lib.hid h
  cases a with
  | none =>
    have e0 : l = [] := by
      rcases h with h | ⟨b, o, e, _⟩
      · exact List.eq_nil_of_length_eq_zero (by omega)
      · cases e
    subst e0
    clear h
    go_enter Tryz.func74, Tryz.ntmps74
    go_wp2_with fail
    go_ret
    exact ⟨⟨_, rfl, rfl, Or.inl ⟨rfl, rfl⟩⟩, Below.refl _ _⟩
  | some ad =>
    clear h
    have O1 := Lib.hid (World.ownsRow_made (e := 37) (size := 2) w #[] 0 (Nat.le_refl _) (Nat.zero_le _) rfl)
    have HM := Lib.hid (H.out.below (nbel_alloc w (.cells #[] 37)))
    obtain ⟨N, hN⟩ : ∃ N, N = l.length := ⟨_, rfl⟩
    have HN := Lib.hid hN
    rw [← hN]
    clear hN H
    go_enter Tryz.func74, Tryz.ntmps74
    go_wp2_with (at_builtin; refine wpList_append_ns (l := []) (m := l) rfl _ _ 26 rfl 37 i0 (.agg #[.int .i64 0, .int .i64 0]) 16 Tryz.underlying26 hi hz0 hz1 hz2 rfl w.heap.size _ rfl O1.out (some ad) c (by rw [← HN.out]; rfl) HM.out (by unfold maxLen; simp; omega) (by simp; omega) (by simp) ?_)
    intro v' w1 hown hgrow
    have HB : Hid (Below w.heap.size w w1) := ((Below.refl _ w).alloc (Nat.le_refl _) _).grown hgrow (by simp) (by intro k hk; simp [Value.ownBlock] at hk; omega)
    have HO : Hid (w1.ownsRow w.heap.size 37 2 v' N (nvs l)) := by show World.ownsRow _ _ _ _ _ _ _; rw [HN.out]; simpa using hown
    clear hown hgrow
    go_wp2_with fail
    go_ret
    exact ⟨⟨v', rfl, HO.out⟩, HB.out⟩
set_option maxRecDepth 100000 in
set_option maxHeartbeats 4000000 in
theorem takes_any (s : Ln.S) (a : Option Addr) (k : Nat) (v : Int) (w : World) (h : IsIn a (s.wait.length * 2) (Ln.fl s.wait) w) (hn : s.wait.length ≤ 1048576) :
    Calls Tryz.prog 75 #[stV s a k, .int .i64 v] w fun e w' => e = .returned (.bool (lB (s.Takes v))) ∧ Below w.heap.size w w' := by
  obtain ⟨W, hW⟩ : ∃ W, W = w.alloc (stO s a k) := ⟨_, rfl⟩
  have HB : Hid (Below w.heap.size w W) := by show Below _ _ _; rw [hW]; exact nbel_alloc _ _
  have HX : Hid (W.rowIs w.heap.size 28 7 (rowN (stL s a k))) := by show W.rowIs _ _ _ _; rw [hW]; exact rowN_alloc w (stL s a k) _
  have H := Lib.hid (h.below HB.out)
  have HN := Lib.hid hn
  have HW := Lib.hid hW
  clear hW h hn
  go_enter Tryz.func75, Tryz.ntmps75
  go_wp2_with fail
  rw [← HW.out]
  clear HW
  refine (implSRight_any s a k _ H.out (by have := HN.out; omega)).mono ?_
  rintro e w1 ⟨rfl, hb⟩
  replace HX := Lib.hid (nrow_below HX.out hb)
  replace HB : Hid (Below w.heap.size w w1) := HB.out.trans (hb.mono HB.out.size)
  clear hb H
  obtain ⟨⟨x0, x1, x2, x3, x4, x5, x6⟩, _⟩ := rowN7 HX.out
  by_cases c1 : s.Right
  case neg =>
    rw [lB_ff c1]
    have HE : Hid (lB (s.Takes v) = false) := lB_ff (fun h => c1 h.1)
    clear c1
    go_wp2_with fail
    go_ret
    exact ⟨by rw [HE.out]; rfl, HB.out⟩
  rw [lB_tt c1]
  have hd := c1.1
  have HC1 := Lib.hid c1
  clear c1
  obtain ⟨-, ⟨b0, b1⟩, ⟨l0, l1⟩, -, -, -⟩ := hd
  go_wp2_with fail
  refine (labout_any _ _ (by omega) (by omega) _).mono ?_
  rintro e w2 ⟨rfl, rfl⟩
  by_cases c2 : -1000000 ≤ v ∧ v ≤ 1000000
  case neg =>
    rw [decide_eq_false c2]
    have HE : Hid (lB (s.Takes v) = false) := lB_ff (fun h => c2 h.2.1)
    clear c2
    go_wp2_with fail
    go_ret
    exact ⟨by rw [HE.out]; rfl, HB.out⟩
  rw [decide_eq_true c2]
  by_cases c3 : s.next = 60000
  · have HE : Hid (lB (s.Takes v) = false) := lB_ff (fun h => h.2.2.1 c3)
    have c3' : (s.next == 60000) = true := by simpa using c3
    clear c3
    go_wp2_with fail
    go_ret
    exact ⟨by rw [HE.out]; rfl, HB.out⟩
  have c3' : (s.next == 60000) = false := by simpa using c3
  by_cases c4 : s.seen = true
  case neg =>
    have c4' : s.seen = false := by cases h : s.seen <;> simp_all
    have HE : Hid (lB (s.Takes v) = true) := lB_tt ⟨HC1.out, c2, c3, fun h => c4 h.1⟩
    rw [c4'] at x2
    clear c3 c4 c4'
    go_wp2_with fail
    go_ret
    exact ⟨by rw [HE.out]; rfl, HB.out⟩
  have hv1 : IntKind.i64.wrap (v - s.last) = v - s.last := lnwrap (by omega) (by omega)
  have HE : Hid ((!decide (-s.band ≤ v - s.last ∧ v - s.last ≤ s.band)) = lB (s.Takes v)) := by
    show _ = _
    by_cases q : -s.band ≤ v - s.last ∧ v - s.last ≤ s.band
    · rw [decide_eq_true q, lB_ff (fun h => h.2.2.2 ⟨c4, q⟩)]; rfl
    · rw [decide_eq_false q, lB_tt ⟨HC1.out, c2, c3, fun h => q h.2⟩]; rfl
  rw [c4] at x2
  clear c3 c4
  go_wp2_with fail
  refine (labout_any _ _ (by omega) (by omega) _).mono ?_
  rintro e w3 ⟨rfl, rfl⟩
  obtain ⟨b, hb0⟩ : ∃ b, b = decide (-s.band ≤ v - s.last ∧ v - s.last ≤ s.band) := ⟨_, rfl⟩
  rw [← hb0] at HE ⊢
  clear hb0
  go_wp2_with fail
  go_ret
  exact ⟨by rw [← HE.out]; rfl, HB.out⟩
/-- What StationNote and StationHeard tell. -/
def StEnd (s : Ln.S) (B : Nat) (e : Ending) (W : World) : Prop := ∃ a k, e = .returned (stV s a k) ∧ NqOwn 37 B s.wait.length a (Ln.fl s.wait) W
set_option maxRecDepth 100000 in
set_option maxHeartbeats 8000000 in
theorem implNote_any (s : Ln.S) (a : Option Addr) (k : Nat) (v : Int) (w : World) (h : IsIn a (s.wait.length * 2) (Ln.fl s.wait) w) (hn : s.wait.length ≤ 1048576) :
    Calls Tryz.prog 55 #[stV s a k, .int .i64 v] w fun e w' => StEnd (s.note v) w.heap.size e w' ∧ Below w.heap.size w w' := by
  obtain ⟨i0, hi, hz0, hz1, hz2⟩ := info_parts linfo_note
  obtain ⟨W, hW⟩ : ∃ W, W = (w.alloc (stO s a k)).alloc stZO := ⟨_, rfl⟩
  have hsz : W.heap.size = w.heap.size + 2 := by rw [hW]; simp
  have HB : Hid (Below w.heap.size w W) := by show Below _ _ _; rw [hW]; exact ((Below.refl _ _).alloc (Nat.le_refl _) _).alloc (by simp) _
  have HX : Hid (W.rowIs w.heap.size 28 7 (rowN (stL s a k))) := by show W.rowIs _ _ _ _; rw [hW]; exact nrow_below (rowN_alloc w (stL s a k) _) (nbel_alloc _ _)
  have HY : Hid (W.rowIs (w.heap.size + 1) 28 7 (rowN stZ)) := by show W.rowIs _ _ _ _; rw [hW]; exact rowN_alloc' (by simp) stZ _
  have H := Lib.hid (h.below HB.out)
  have HN := Lib.hid hn
  have HW := Lib.hid hW
  have HSZ := Lib.hid hsz
  clear hW h hsz
  go_enter Tryz.func55, Tryz.ntmps55
  go_wp2_with fail
  rw [← HW.out]
  clear HW
  refine (cln_any a k s.wait _ H.out HN.out).mono ?_
  rintro e w1 ⟨⟨v1, rfl, hown⟩, hb⟩
  rw [HSZ.out] at hown
  obtain ⟨a1, k1, rfl, _, _⟩ := own_ns hown
  replace HX := Lib.hid (nrow_below HX.out hb)
  replace HY := Lib.hid (nrow_below HY.out hb)
  replace HB : Hid (Below w.heap.size w w1) := HB.out.trans (hb.mono HB.out.size)
  have HO := Lib.hid hown
  have hs1 : w.heap.size + 2 ≤ w1.heap.size := by have := hb.size; rw [HSZ.out] at this; exact this
  have HS1 := Lib.hid hs1
  clear hb hown H HSZ
  obtain ⟨W2, hW2⟩ : ∃ W2, W2 = w1.setCell ⟨w.heap.size, 5, none⟩ (.slice a1 s.wait.length k1) := ⟨_, rfl⟩
  have HX2 : Hid (W2.rowIs w.heap.size 28 7 (rowN (stL s a1 k1))) := by show W2.rowIs _ _ _ _; rw [hW2]; exact rowN_put HX.out 5 _ (by simp)
  have HY2 : Hid (W2.rowIs (w.heap.size + 1) 28 7 (rowN stZ)) := by show W2.rowIs _ _ _ _; rw [hW2]; exact nrow_set HY.out (p := ⟨w.heap.size, 5, none⟩) (by show w.heap.size + 1 ≠ w.heap.size; omega) _
  have HB2 : Hid (Below w.heap.size w W2) := by show Below _ _ _; rw [hW2]; exact HB.out.setCell (p := ⟨w.heap.size, 5, none⟩) (Nat.le_refl _) _
  have HO2 : Hid (W2.ownsRow (w.heap.size + 2) 37 2 (.slice a1 s.wait.length k1) s.wait.length (nvs s.wait)) := by
    show World.ownsRow _ _ _ _ _ _ _
    rw [hW2]
    refine ⟨HO.out.1, ?_⟩
    rcases HO.out.2 with h | ⟨g, cap, cur, e1, e2, e3, e4⟩
    · exact Or.inl h
    · exact Or.inr ⟨g, cap, cur, e1, e2, by rw [bihs _ _ _ (by omega)]; exact e3, e4⟩
  have hs2 : w.heap.size + 2 ≤ W2.heap.size := by rw [hW2]; simpa using hs1
  have HW2 := Lib.hid hW2
  obtain ⟨⟨x0, x1, x2, x3, x4, x5, x6⟩, f0, f1, f2, f3, f4, f5, f6⟩ := rowN7 HX.out
  have hl0 := HX.out.lt
  clear hW2 hs1
  go_wp2_with fail
  rw [← HW2.out]
  clear HW2 HX HY HO HB x0 x1 x2 x3 x4 x5 x6 f0 f1 f2 f3 f4 f5 f6 hl0 HS1
  obtain ⟨a1', c1', e1, hq, hq2⟩ := own_ns HO2.out
  cases e1
  have HQ := Lib.hid hq
  have HQ2 := Lib.hid hq2
  clear hq hq2
  refine (takes_any s a1 k1 v _ HQ.out.in_ HN.out).mono ?_
  rintro e w3 ⟨rfl, hb⟩
  have HX3 := Lib.hid (nrow_below HX2.out hb)
  have HY3 := Lib.hid (nrow_below HY2.out hb)
  have HB3 : Hid (Below w.heap.size w w3) := HB2.out.trans (hb.mono HB2.out.size)
  have HQ3 := Lib.hid (HQ.out.below hb)
  have HO3 : Hid (w3.ownsRow (w.heap.size + 2) 37 2 (.slice a1 s.wait.length k1) s.wait.length (nvs s.wait)) := by
    show World.ownsRow _ _ _ _ _ _ _
    refine ⟨HO2.out.1, ?_⟩
    rcases HO2.out.2 with h | ⟨g, cap, cur, e1, e2, e3, e4⟩
    · exact Or.inl h
    · refine Or.inr ⟨g, cap, cur, e1, e2, ?_, e4⟩
      rw [hb.block g (by
        rcases Nat.lt_or_ge g W2.heap.size with h | h
        · exact h
        · rw [Array.getElem?_eq_none h] at e3; cases e3)]
      exact e3
  have hs3 : w.heap.size + 2 ≤ w3.heap.size := Nat.le_trans hs2 hb.size
  clear hb HX2 HY2 HB2 HQ HO2 HQ2 hs2
  obtain ⟨⟨x0, x1, x2, x3, x4, x5, x6⟩, f0, f1, f2, f3, f4, f5, f6⟩ := rowN7 HX3.out
  obtain ⟨⟨y0, y1, y2, y3, y4, y5, y6⟩, g0, g1, g2, g3, g4, g5, g6⟩ := rowN7 HY3.out
  have hl0 := HX3.out.lt
  have hl1 := HY3.out.lt
  by_cases ct : s.Takes v
  case neg =>
    rw [lB_ff ct]
    have HE : Hid (s.note v = s) := Ln.S.note_no ct
    clear ct
    have zr := Lib.hid (lput7 HY3.out rfl (.int .i64 s.unit) (.int .i64 s.band) (.bool s.seen) (.int .i64 s.last) (.int .i64 s.next) (.slice a1 s.wait.length k1) (.int .i64 s.drops))
    have zb := Lib.hid (lbel7 HB3.out (g := w.heap.size + 1) (by omega) (.int .i64 s.unit) (.int .i64 s.band) (.bool s.seen) (.int .i64 s.last) (.int .i64 s.next) (.slice a1 s.wait.length k1) (.int .i64 s.drops))
    have zq : Hid (NqOwn 37 w.heap.size s.wait.length a1 (Ln.fl s.wait) ((((((((w3.setCell ⟨w.heap.size + 1, 0, none⟩ (.int .i64 s.unit)).setCell ⟨w.heap.size + 1, 1, none⟩ (.int .i64 s.band)).setCell ⟨w.heap.size + 1, 2, none⟩ (.bool s.seen)).setCell ⟨w.heap.size + 1, 3, none⟩ (.int .i64 s.last)).setCell ⟨w.heap.size + 1, 4, none⟩ (.int .i64 s.next)).setCell ⟨w.heap.size + 1, 5, none⟩ (.slice a1 s.wait.length k1)).setCell ⟨w.heap.size + 1, 6, none⟩ (.int .i64 s.drops)))) := (HQ3.out.same (fun k hk _ => lblk7 (by omega) _ _ _ _ _ _ _)).low (by omega)
    go_wp2_with fail
    refine bodyPost_ret (v := stV s a1 k1) ?_ rfl ⟨by rw [HE.out]; exact ⟨a1, k1, rfl, zq.out⟩, zb.out⟩
    obtain ⟨⟨u0, u1, u2, u3, u4, u5, u6⟩, _⟩ := rowN7 zr.out
    simp only [results, Tryz.results55]
    simp [go_sem, u0, u1, u2, u3, u4, u5, u6]
  rw [lB_tt ct]
  have hd := ct.1.1
  have hw40 := ct.1.2.1
  have HE : Hid (s.note v = s.put v) := Ln.S.note_yes ct
  clear ct
  obtain ⟨-, -, -, -, ⟨nx0, nx1⟩, ⟨dr0, dr1⟩⟩ := hd
  have hnx : IntKind.i64.wrap (s.next + 1) = s.next + 1 := lnwrap (by omega) (by omega)
  have O4 : Hid ((w3.alloc (.cells #[.int .i64 s.next, .int .i64 v] 37)).ownsRow (w.heap.size + 2) 37 2 (.slice a1 s.wait.length k1) s.wait.length (nvs s.wait)) := HO3.out.alloc _
  have HM := Lib.hid (one_in w3 37 s.next v)
  have HBA : Hid (Below w.heap.size w (w3.alloc (.cells #[.int .i64 s.next, .int .i64 v] 37))) := HB3.out.alloc HB3.out.size _
  have HXA : Hid ((w3.alloc (.cells #[.int .i64 s.next, .int .i64 v] 37)).rowIs w.heap.size 28 7 (rowN (stL s a1 k1))) := nrow_below HX3.out (nbel_alloc _ _)
  have HYA : Hid ((w3.alloc (.cells #[.int .i64 s.next, .int .i64 v] 37)).rowIs (w.heap.size + 1) 28 7 (rowN stZ)) := nrow_below HY3.out (nbel_alloc _ _)
  have HOB : Hid (∀ q, (Value.slice a1 s.wait.length k1).ownBlock = some q → w.heap.size + 2 ≤ q) := fun q hq => (HO3.out.lt q hq).1
  clear HQ3 HO3 y0 y1 y2 y3 y4 y5 y6 g0 g1 g2 g3 g4 g5 g6
  go_wp2_with (at_builtin; refine wpList_append_ns (l := s.wait) (m := [(s.next, v)]) rfl _ _ 26 rfl 37 i0 (.agg #[.int .i64 0, .int .i64 0]) 16 Tryz.underlying26 hi hz0 hz1 hz2 rfl (w.heap.size + 2) _ rfl O4.out (some ⟨w3.heap.size, 0, none⟩) 1 rfl HM.out (by unfold maxLen; simp; omega) (by simp; omega) (by simp; omega) ?_)
  intro v5 w5 hown hgrow
  have HB5 : Hid (Below w.heap.size w w5) := HBA.out.grown hgrow (by simp; omega) (fun q hq => by have := HOB.out q hq; omega)
  have HX5 : Hid (w5.rowIs w.heap.size 28 7 (rowN (stL s a1 k1))) := HXA.out.of_block (hgrow.block _ HXA.out.lt (fun e => by have := HOB.out _ e.symm; omega))
  have HY5 : Hid (w5.rowIs (w.heap.size + 1) 28 7 (rowN stZ)) := HYA.out.of_block (hgrow.block _ HYA.out.lt (fun e => by have := HOB.out _ e.symm; omega))
  obtain ⟨L, hL⟩ : ∃ L, L = s.wait ++ [(s.next, v)] := ⟨_, rfl⟩
  have hLl : L.length = s.wait.length + 1 := by rw [hL]; simp
  have hown2 : w5.ownsRow (w.heap.size + 2) 37 2 v5 L.length (nvs L) := by rw [hL]; simpa using hown
  clear hown
  obtain ⟨a5, k5, rfl, hq5, hf5⟩ := own_ns hown2
  have HQ5 := Lib.hid hq5
  have HF5 := Lib.hid hf5
  have HL := Lib.hid hL
  clear hown2 hgrow hq5 hf5 O4 HM HBA HXA HYA HX3 HY3 HB3 x0 x1 x2 x3 x4 x5 x6 f0 f1 f2 f3 f4 f5 f6 hl0 hl1 hL HOB
  obtain ⟨⟨x0, x1, x2, x3, x4, x5, x6⟩, f0, f1, f2, f3, f4, f5, f6⟩ := rowN7 HX5.out
  obtain ⟨⟨y0, y1, y2, y3, y4, y5, y6⟩, g0, g1, g2, g3, g4, g5, g6⟩ := rowN7 HY5.out
  have hl0 := HX5.out.lt
  have hl1 := HY5.out.lt
  by_cases c40 : s.wait.length < 40
  · have HLen : Hid (L.length = s.wait.length + 1) := hLl
    have hgt : ¬ (40 : Int) < (L.length : Int) := by omega
    clear hLl
    have HP : Hid (s.put v = ⟨s.unit, s.band, true, v, s.next + 1, L, s.drops⟩) := by show _ = _; unfold Ln.S.put; rw [if_pos c40, HL.out]
    obtain ⟨N, hN⟩ : ∃ N, N = L.length := ⟨_, rfl⟩
    rw [← hN] at hgt ⊢
    have HNL := Lib.hid hN
    clear hN
    obtain ⟨V, hV⟩ : ∃ V, V = (((w5.setCell ⟨w.heap.size, 5, none⟩ (.slice a5 N k5)).setCell ⟨w.heap.size, 2, none⟩ (.bool true)).setCell ⟨w.heap.size, 3, none⟩ (.int .i64 v)).setCell ⟨w.heap.size, 4, none⟩ (.int .i64 (s.next + 1)) := ⟨_, rfl⟩
    have bV : ∀ q, q ≠ w.heap.size → V.heap[q]? = w5.heap[q]? := fun q hq => by rw [hV]; exact (bihs _ _ _ hq _ _).trans ((bihs _ _ _ hq _ _).trans ((bihs _ _ _ hq _ _).trans (bihs _ _ _ hq _ _)))
    have HBV : Hid (Below w.heap.size w V) := by show Below _ _ _; rw [hV]; exact (((HB5.out.setCell (p := ⟨w.heap.size, _, none⟩) (Nat.le_refl _) _).setCell (p := ⟨w.heap.size, _, none⟩) (Nat.le_refl _) _).setCell (p := ⟨w.heap.size, _, none⟩) (Nat.le_refl _) _).setCell (p := ⟨w.heap.size, _, none⟩) (Nat.le_refl _) _
    have HYV : Hid (V.rowIs (w.heap.size + 1) 28 7 (rowN stZ)) := HY5.out.of_block (bV _ (by omega))
    have HQV : Hid (NqOwn 37 (w.heap.size + 2) L.length a5 (Ln.fl L) V) := HQ5.out.same (fun q hq _ => bV q (by omega))
    have HV := Lib.hid hV
    clear hV bV
    have zr := Lib.hid (lput7 HYV.out rfl (.int .i64 s.unit) (.int .i64 s.band) (.bool true) (.int .i64 v) (.int .i64 (s.next + 1)) (.slice a5 N k5) (.int .i64 s.drops))
    have zb := Lib.hid (lbel7 HBV.out (g := w.heap.size + 1) (by omega) (.int .i64 s.unit) (.int .i64 s.band) (.bool true) (.int .i64 v) (.int .i64 (s.next + 1)) (.slice a5 N k5) (.int .i64 s.drops))
    have zq : Hid (NqOwn 37 w.heap.size L.length a5 (Ln.fl L) ((((((((V.setCell ⟨w.heap.size + 1, 0, none⟩ (.int .i64 s.unit)).setCell ⟨w.heap.size + 1, 1, none⟩ (.int .i64 s.band)).setCell ⟨w.heap.size + 1, 2, none⟩ (.bool true)).setCell ⟨w.heap.size + 1, 3, none⟩ (.int .i64 v)).setCell ⟨w.heap.size + 1, 4, none⟩ (.int .i64 (s.next + 1))).setCell ⟨w.heap.size + 1, 5, none⟩ (.slice a5 N k5)).setCell ⟨w.heap.size + 1, 6, none⟩ (.int .i64 s.drops)))) := (HQV.out.same (fun k hk _ => lblk7 (by omega) _ _ _ _ _ _ _)).low (by omega)
    rw [HV.out] at zr zb zq
    clear HV HBV HYV HQV HQ5 HF5 HB5 HX5 HY5
    go_wp2_with fail
    refine bodyPost_ret (v := stV ⟨s.unit, s.band, true, v, s.next + 1, L, s.drops⟩ a5 k5) ?_ rfl ⟨by rw [HE.out, HP.out]; exact ⟨a5, k5, rfl, zq.out⟩, zb.out⟩
    obtain ⟨⟨u0, u1, u2, u3, u4, u5, u6⟩, _⟩ := rowN7 zr.out
    simp only [results, Tryz.results55]
    simp only [stV, ← HNL.out]
    simp [go_sem, u0, u1, u2, u3, u4, u5, u6]
  · have hgt : (40 : Int) < (L.length : Int) := by omega
    have HP : Hid (s.put v = ⟨s.unit, s.band, true, v, s.next + 1, L.tail, s.drops + 1⟩) := by show _ = _; unfold Ln.S.put; rw [if_neg c40, HL.out]
    have hdr : IntKind.i64.wrap (s.drops + 1) = s.drops + 1 := lnwrap (by omega) (by omega)
    obtain ⟨gg, rfl, hg5, hlk, FF, hrow, hFF⟩ : ∃ g, a5 = some ⟨g, 0, none⟩ ∧ w.heap.size + 2 ≤ g ∧ L.length ≤ k5 ∧ ∃ F, w5.rowIs g 37 (k5 * 2) F ∧ ∀ j, j < L.length * 2 → F j = .int .i64 (Ln.fl L j) := by
      rcases HF5.out with ⟨_, h, _⟩ | h
      · omega
      · exact h
    obtain ⟨N, hN⟩ : ∃ N, L.length = N + 1 := ⟨L.length - 1, by omega⟩
    obtain ⟨C, hC⟩ : ∃ C, k5 = C + 1 := ⟨k5 - 1, by omega⟩
    subst hC
    have HTL : Hid (L.tail.length = N) := by show _ = _; simp; omega
    have HQ6 : Hid (NqOwn 37 (w.heap.size + 2) L.tail.length (some ⟨gg, 2, none⟩) (Ln.fl L.tail) w5) := Or.inr ⟨gg, 2, rfl, hg5, (C + 1) * 2, FF, by rw [HTL.out]; omega, hrow, fun j hj => by rw [Ln.fl_tail]; exact hFF (2 + j) (by rw [HTL.out] at hj; omega)⟩
    rw [hN] at hgt hlk ⊢
    have hk1 : (1 : Int) ≤ ((N + 1 : Nat) : Int) := by omega
    have hk2 : ((N + 1 : Nat) : Int) ≤ ((C + 1 : Nat) : Int) := by omega
    have HHN := Lib.hid hN
    clear hN hrow hFF hLl
    obtain ⟨V, hV⟩ : ∃ V, V = ((((((w5.setCell ⟨w.heap.size, 5, none⟩ (.slice (some ⟨gg, 0, none⟩) (N + 1) (C + 1))).setCell ⟨w.heap.size, 2, none⟩ (.bool true)).setCell ⟨w.heap.size, 3, none⟩ (.int .i64 v)).setCell ⟨w.heap.size, 4, none⟩ (.int .i64 (s.next + 1))).setCell ⟨w.heap.size, 5, none⟩ (.slice (some ⟨gg, 2, none⟩) N C)).setCell ⟨w.heap.size, 6, none⟩ (.int .i64 (s.drops + 1))) := ⟨_, rfl⟩
    have bV : ∀ q, q ≠ w.heap.size → V.heap[q]? = w5.heap[q]? := fun q hq => by rw [hV]; exact (bihs _ _ _ hq _ _).trans ((bihs _ _ _ hq _ _).trans ((bihs _ _ _ hq _ _).trans ((bihs _ _ _ hq _ _).trans ((bihs _ _ _ hq _ _).trans (bihs _ _ _ hq _ _)))))
    have HBV : Hid (Below w.heap.size w V) := by show Below _ _ _; rw [hV]; exact (((((HB5.out.setCell (p := ⟨w.heap.size, _, none⟩) (Nat.le_refl _) _).setCell (p := ⟨w.heap.size, _, none⟩) (Nat.le_refl _) _).setCell (p := ⟨w.heap.size, _, none⟩) (Nat.le_refl _) _).setCell (p := ⟨w.heap.size, _, none⟩) (Nat.le_refl _) _).setCell (p := ⟨w.heap.size, _, none⟩) (Nat.le_refl _) _).setCell (p := ⟨w.heap.size, _, none⟩) (Nat.le_refl _) _
    have HYV : Hid (V.rowIs (w.heap.size + 1) 28 7 (rowN stZ)) := HY5.out.of_block (bV _ (by omega))
    have HQV : Hid (NqOwn 37 (w.heap.size + 2) L.tail.length (some ⟨gg, 2, none⟩) (Ln.fl L.tail) V) := HQ6.out.same (fun q hq _ => bV q (by omega))
    have HV := Lib.hid hV
    clear hV bV
    have zr := Lib.hid (lput7 HYV.out rfl (.int .i64 s.unit) (.int .i64 s.band) (.bool true) (.int .i64 v) (.int .i64 (s.next + 1)) (.slice (some ⟨gg, 2, none⟩) N C) (.int .i64 (s.drops + 1)))
    have zb := Lib.hid (lbel7 HBV.out (g := w.heap.size + 1) (by omega) (.int .i64 s.unit) (.int .i64 s.band) (.bool true) (.int .i64 v) (.int .i64 (s.next + 1)) (.slice (some ⟨gg, 2, none⟩) N C) (.int .i64 (s.drops + 1)))
    have zq : Hid (NqOwn 37 w.heap.size L.tail.length (some ⟨gg, 2, none⟩) (Ln.fl L.tail) ((((((((V.setCell ⟨w.heap.size + 1, 0, none⟩ (.int .i64 s.unit)).setCell ⟨w.heap.size + 1, 1, none⟩ (.int .i64 s.band)).setCell ⟨w.heap.size + 1, 2, none⟩ (.bool true)).setCell ⟨w.heap.size + 1, 3, none⟩ (.int .i64 v)).setCell ⟨w.heap.size + 1, 4, none⟩ (.int .i64 (s.next + 1))).setCell ⟨w.heap.size + 1, 5, none⟩ (.slice (some ⟨gg, 2, none⟩) N C)).setCell ⟨w.heap.size + 1, 6, none⟩ (.int .i64 (s.drops + 1))))) := (HQV.out.same (fun k hk _ => lblk7 (by omega) _ _ _ _ _ _ _)).low (by omega)
    rw [HV.out] at zr zb zq
    clear HV HBV HYV HQV HQ5 HF5 HB5 HX5 HY5 HQ6
    go_wp2_with fail
    refine bodyPost_ret (v := stV ⟨s.unit, s.band, true, v, s.next + 1, L.tail, s.drops + 1⟩ (some ⟨gg, 2, none⟩) C) ?_ rfl ⟨by rw [HE.out, HP.out]; exact ⟨_, C, rfl, zq.out⟩, zb.out⟩
    obtain ⟨⟨u0, u1, u2, u3, u4, u5, u6⟩, _⟩ := rowN7 zr.out
    simp only [results, Tryz.results55]
    simp only [stV, HTL.out]
    simp [go_sem, u0, u1, u2, u3, u4, u5, u6]
end Go.Proofs.YtdlojhncbgfjbaaGreatDoor
