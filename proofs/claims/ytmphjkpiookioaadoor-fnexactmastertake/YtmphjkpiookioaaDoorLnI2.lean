/-
  StationNote: the program's.
-/
import Derived.Test.YtmphjkpiookioaaDoorLnI1
import Derived.Lib.SliceRun
namespace Go.Proofs.YtmphjkpiookioaaDoor
open Go.RowKit Go.Deep

theorem lput7 {W : World} {g : Nat} {T : TypeId} {l : List Value} (h : W.rowIs g T 7 (rowN l)) (hl : l.length = 7) (v0 v1 v2 v3 v4 v5 v6 : Value) : World.rowIs (((((((W.setCell ⟨g, 0, none⟩ v0).setCell ⟨g, 1, none⟩ v1).setCell ⟨g, 2, none⟩ v2).setCell ⟨g, 3, none⟩ v3).setCell ⟨g, 4, none⟩ v4).setCell ⟨g, 5, none⟩ v5).setCell ⟨g, 6, none⟩ v6) g T 7 (rowN [v0, v1, v2, v3, v4, v5, v6]) := by
  match l, hl with
  | [x0, x1, x2, x3, x4, x5, x6], _ => exact (rowN_put (rowN_put (rowN_put (rowN_put (rowN_put (rowN_put (rowN_put h 0 v0 (by simp)) 1 v1 (by simp)) 2 v2 (by simp)) 3 v3 (by simp)) 4 v4 (by simp)) 5 v5 (by simp)) 6 v6 (by simp))
theorem lblk7 {W : World} {g k : Nat} (h : k ≠ g) (v0 v1 v2 v3 v4 v5 v6 : Value) : (World.heap (((((((W.setCell ⟨g, 0, none⟩ v0).setCell ⟨g, 1, none⟩ v1).setCell ⟨g, 2, none⟩ v2).setCell ⟨g, 3, none⟩ v3).setCell ⟨g, 4, none⟩ v4).setCell ⟨g, 5, none⟩ v5).setCell ⟨g, 6, none⟩ v6))[k]? = W.heap[k]? := ((bihs _ _ _ h 6 v6).trans ((bihs _ _ _ h 5 v5).trans ((bihs _ _ _ h 4 v4).trans ((bihs _ _ _ h 3 v3).trans ((bihs _ _ _ h 2 v2).trans ((bihs _ _ _ h 1 v1).trans ((bihs _ _ _ h 0 v0).trans rfl)))))))
theorem lbel7 {B g : Nat} {W0 W : World} (h : Below B W0 W) (hg : B ≤ g) (v0 v1 v2 v3 v4 v5 v6 : Value) : Below B W0 (((((((W.setCell ⟨g, 0, none⟩ v0).setCell ⟨g, 1, none⟩ v1).setCell ⟨g, 2, none⟩ v2).setCell ⟨g, 3, none⟩ v3).setCell ⟨g, 4, none⟩ v4).setCell ⟨g, 5, none⟩ v5).setCell ⟨g, 6, none⟩ v6) := (((((((h.setCell (p := ⟨g, 0, none⟩) hg v0).setCell (p := ⟨g, 1, none⟩) hg v1).setCell (p := ⟨g, 2, none⟩) hg v2).setCell (p := ⟨g, 3, none⟩) hg v3).setCell (p := ⟨g, 4, none⟩) hg v4).setCell (p := ⟨g, 5, none⟩) hg v5).setCell (p := ⟨g, 6, none⟩) hg v6)
theorem lsz7 {W : World} {g : Nat} (v0 v1 v2 v3 v4 v5 v6 : Value) : (World.heap (((((((W.setCell ⟨g, 0, none⟩ v0).setCell ⟨g, 1, none⟩ v1).setCell ⟨g, 2, none⟩ v2).setCell ⟨g, 3, none⟩ v3).setCell ⟨g, 4, none⟩ v4).setCell ⟨g, 5, none⟩ v5).setCell ⟨g, 6, none⟩ v6)).size = W.heap.size := by simp
theorem lput3 {W : World} {g : Nat} {T : TypeId} {l : List Value} (h : W.rowIs g T 3 (rowN l)) (hl : l.length = 3) (v0 v1 v2 : Value) : World.rowIs (((W.setCell ⟨g, 0, none⟩ v0).setCell ⟨g, 1, none⟩ v1).setCell ⟨g, 2, none⟩ v2) g T 3 (rowN [v0, v1, v2]) := by
  match l, hl with
  | [x0, x1, x2], _ => exact (rowN_put (rowN_put (rowN_put h 0 v0 (by simp)) 1 v1 (by simp)) 2 v2 (by simp))
theorem lblk3 {W : World} {g k : Nat} (h : k ≠ g) (v0 v1 v2 : Value) : (World.heap (((W.setCell ⟨g, 0, none⟩ v0).setCell ⟨g, 1, none⟩ v1).setCell ⟨g, 2, none⟩ v2))[k]? = W.heap[k]? := ((bihs _ _ _ h 2 v2).trans ((bihs _ _ _ h 1 v1).trans ((bihs _ _ _ h 0 v0).trans rfl)))
theorem lbel3 {B g : Nat} {W0 W : World} (h : Below B W0 W) (hg : B ≤ g) (v0 v1 v2 : Value) : Below B W0 (((W.setCell ⟨g, 0, none⟩ v0).setCell ⟨g, 1, none⟩ v1).setCell ⟨g, 2, none⟩ v2) := (((h.setCell (p := ⟨g, 0, none⟩) hg v0).setCell (p := ⟨g, 1, none⟩) hg v1).setCell (p := ⟨g, 2, none⟩) hg v2)
theorem lsz3 {W : World} {g : Nat} (v0 v1 v2 : Value) : (World.heap (((W.setCell ⟨g, 0, none⟩ v0).setCell ⟨g, 1, none⟩ v1).setCell ⟨g, 2, none⟩ v2)).size = W.heap.size := by simp
theorem lput11 {W : World} {g : Nat} {T : TypeId} {l : List Value} (h : W.rowIs g T 11 (rowN l)) (hl : l.length = 11) (v0 v1 v2 v3 v4 v5 v6 v7 v8 v9 v10 : Value) : World.rowIs (((((((((((W.setCell ⟨g, 0, none⟩ v0).setCell ⟨g, 1, none⟩ v1).setCell ⟨g, 2, none⟩ v2).setCell ⟨g, 3, none⟩ v3).setCell ⟨g, 4, none⟩ v4).setCell ⟨g, 5, none⟩ v5).setCell ⟨g, 6, none⟩ v6).setCell ⟨g, 7, none⟩ v7).setCell ⟨g, 8, none⟩ v8).setCell ⟨g, 9, none⟩ v9).setCell ⟨g, 10, none⟩ v10) g T 11 (rowN [v0, v1, v2, v3, v4, v5, v6, v7, v8, v9, v10]) := by
  match l, hl with
  | [x0, x1, x2, x3, x4, x5, x6, x7, x8, x9, x10], _ => exact (rowN_put (rowN_put (rowN_put (rowN_put (rowN_put (rowN_put (rowN_put (rowN_put (rowN_put (rowN_put (rowN_put h 0 v0 (by simp)) 1 v1 (by simp)) 2 v2 (by simp)) 3 v3 (by simp)) 4 v4 (by simp)) 5 v5 (by simp)) 6 v6 (by simp)) 7 v7 (by simp)) 8 v8 (by simp)) 9 v9 (by simp)) 10 v10 (by simp))
theorem lblk11 {W : World} {g k : Nat} (h : k ≠ g) (v0 v1 v2 v3 v4 v5 v6 v7 v8 v9 v10 : Value) : (World.heap (((((((((((W.setCell ⟨g, 0, none⟩ v0).setCell ⟨g, 1, none⟩ v1).setCell ⟨g, 2, none⟩ v2).setCell ⟨g, 3, none⟩ v3).setCell ⟨g, 4, none⟩ v4).setCell ⟨g, 5, none⟩ v5).setCell ⟨g, 6, none⟩ v6).setCell ⟨g, 7, none⟩ v7).setCell ⟨g, 8, none⟩ v8).setCell ⟨g, 9, none⟩ v9).setCell ⟨g, 10, none⟩ v10))[k]? = W.heap[k]? := ((bihs _ _ _ h 10 v10).trans ((bihs _ _ _ h 9 v9).trans ((bihs _ _ _ h 8 v8).trans ((bihs _ _ _ h 7 v7).trans ((bihs _ _ _ h 6 v6).trans ((bihs _ _ _ h 5 v5).trans ((bihs _ _ _ h 4 v4).trans ((bihs _ _ _ h 3 v3).trans ((bihs _ _ _ h 2 v2).trans ((bihs _ _ _ h 1 v1).trans ((bihs _ _ _ h 0 v0).trans rfl)))))))))))
theorem lbel11 {B g : Nat} {W0 W : World} (h : Below B W0 W) (hg : B ≤ g) (v0 v1 v2 v3 v4 v5 v6 v7 v8 v9 v10 : Value) : Below B W0 (((((((((((W.setCell ⟨g, 0, none⟩ v0).setCell ⟨g, 1, none⟩ v1).setCell ⟨g, 2, none⟩ v2).setCell ⟨g, 3, none⟩ v3).setCell ⟨g, 4, none⟩ v4).setCell ⟨g, 5, none⟩ v5).setCell ⟨g, 6, none⟩ v6).setCell ⟨g, 7, none⟩ v7).setCell ⟨g, 8, none⟩ v8).setCell ⟨g, 9, none⟩ v9).setCell ⟨g, 10, none⟩ v10) := (((((((((((h.setCell (p := ⟨g, 0, none⟩) hg v0).setCell (p := ⟨g, 1, none⟩) hg v1).setCell (p := ⟨g, 2, none⟩) hg v2).setCell (p := ⟨g, 3, none⟩) hg v3).setCell (p := ⟨g, 4, none⟩) hg v4).setCell (p := ⟨g, 5, none⟩) hg v5).setCell (p := ⟨g, 6, none⟩) hg v6).setCell (p := ⟨g, 7, none⟩) hg v7).setCell (p := ⟨g, 8, none⟩) hg v8).setCell (p := ⟨g, 9, none⟩) hg v9).setCell (p := ⟨g, 10, none⟩) hg v10)
theorem lsz11 {W : World} {g : Nat} (v0 v1 v2 v3 v4 v5 v6 v7 v8 v9 v10 : Value) : (World.heap (((((((((((W.setCell ⟨g, 0, none⟩ v0).setCell ⟨g, 1, none⟩ v1).setCell ⟨g, 2, none⟩ v2).setCell ⟨g, 3, none⟩ v3).setCell ⟨g, 4, none⟩ v4).setCell ⟨g, 5, none⟩ v5).setCell ⟨g, 6, none⟩ v6).setCell ⟨g, 7, none⟩ v7).setCell ⟨g, 8, none⟩ v8).setCell ⟨g, 9, none⟩ v9).setCell ⟨g, 10, none⟩ v10)).size = W.heap.size := by simp
theorem linfo_note : (Tryd.prog.info? 47).map (fun i => (i.zero, i.size, i.bytes)) = some (some (.agg #[.int .i64 0, .int .i64 0]), 2, 16) := by kernel_rfl
/-- The block of an empty station. -/
abbrev stZ : List Value := [.int .i64 0, .int .i64 0, .bool false, .int .i64 0, .int .i64 0, .slice none 0 0, .int .i64 0]
abbrev stZO : Obj := .cells #[.int .i64 0, .int .i64 0, .bool false, .int .i64 0, .int .i64 0, .slice none 0 0, .int .i64 0] 29
set_option maxRecDepth 100000 in
set_option maxHeartbeats 2000000 in
theorem cln_any (a : Option Addr) (c : Nat) (l : List Ln.Nt) (w : World) (h : IsIn a (l.length * 2) (Ln.fl l) w) (hn : l.length ≤ 1048576) :
    Calls Tryd.prog 29 #[.slice a l.length c] w fun e w' => (∃ v, e = .returned v ∧ w'.ownsRow w.heap.size 47 2 v l.length (nvs l)) ∧ Below w.heap.size w w' := by
  obtain ⟨i0, hi, hz0, hz1, hz2⟩ := info_parts linfo_note
  have q22 : ∀ (w : World) (a : Option Addr) (n c n' c' : Nat), (binOp .eql 27 (.slice a n c) (.slice none n' c')).run Tryd.prog w = .ok (.bool a.isNone) w := fun w a n c n' c' => Lib.run_eql_slice_nil w _ _ a n c n' c' Tryd.underlying27
  have H := Lib.hid h
  cases a with
  | none =>
    have e0 : l = [] := by
      rcases h with h | ⟨b, o, e, _⟩
      · exact List.eq_nil_of_length_eq_zero (by omega)
      · cases e
    subst e0
    clear h
    go_enter Tryd.func29, Tryd.ntmps29
    go_wp2_with fail
    go_ret
    exact ⟨⟨_, rfl, rfl, Or.inl ⟨rfl, rfl⟩⟩, Below.refl _ _⟩
  | some ad =>
    clear h
    have O1 := Lib.hid (World.ownsRow_made (e := 47) (size := 2) w #[] 0 (Nat.le_refl _) (Nat.zero_le _) rfl)
    have HM := Lib.hid (H.out.below (nbel_alloc w (.cells #[] 47)))
    obtain ⟨N, hN⟩ : ∃ N, N = l.length := ⟨_, rfl⟩
    have HN := Lib.hid hN
    rw [← hN]
    clear hN H
    go_enter Tryd.func29, Tryd.ntmps29
    go_wp2_with (at_builtin; refine wpList_append_ns (l := []) (m := l) rfl _ _ 27 rfl 47 i0 (.agg #[.int .i64 0, .int .i64 0]) 16 Tryd.underlying27 hi hz0 hz1 hz2 rfl w.heap.size _ rfl O1.out (some ad) c (by rw [← HN.out]; rfl) HM.out (by unfold maxLen; simp; omega) (by simp; omega) (by simp) ?_)
    intro v' w1 hown hgrow
    have HB : Hid (Below w.heap.size w w1) := ((Below.refl _ w).alloc (Nat.le_refl _) _).grown hgrow (by simp) (by intro k hk; simp [Value.ownBlock] at hk; omega)
    have HO : Hid (w1.ownsRow w.heap.size 47 2 v' N (nvs l)) := by show World.ownsRow _ _ _ _ _ _ _; rw [HN.out]; simpa using hown
    clear hown hgrow
    go_wp2_with fail
    go_ret
    exact ⟨⟨v', rfl, HO.out⟩, HB.out⟩
end Go.Proofs.YtmphjkpiookioaaDoor
