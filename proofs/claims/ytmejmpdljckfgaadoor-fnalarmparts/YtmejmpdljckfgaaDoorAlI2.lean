/-
  The program's pointer methods of an alarm: seen, put off, a value; AlarmAct.
-/
import Derived.Test.YtmejmpdljckfgaaDoorAlI1
namespace Go.Proofs.YtmejmpdljckfgaaDoor
open Go.RowKit Go.Deep

/-- An alarm that lies somewhere in a block of the call's own. -/
structure AlRow (T : TypeId) (p m o : Nat) (F : Nat → Value) (a : Al.A) (w : World) : Prop where
  r : w.rowIs p T m F
  le : o + 6 ≤ m
  c0 : F (o) = .int .i64 a.hi
  c1 : F (o + 1) = .int .i64 a.lo
  c2 : F (o + 2) = .int .i64 a.dl
  c3 : F (o + 3) = .int .i64 a.st
  c4 : F (o + 4) = .int .i64 a.ct
  c5 : F (o + 5) = .int .i64 a.sh
section
variable {T : TypeId} {p m o : Nat} {F : Nat → Value} {a : Al.A} {w w' w'' : World}
theorem AlRow.cells (h : AlRow T p m o F a w) : (w.cell? ⟨p, o, none⟩ = some (.int .i64 a.hi) ∧ w.cell? ⟨p, o + 1, none⟩ = some (.int .i64 a.lo) ∧ w.cell? ⟨p, o + 2, none⟩ = some (.int .i64 a.dl) ∧ w.cell? ⟨p, o + 3, none⟩ = some (.int .i64 a.st) ∧ w.cell? ⟨p, o + 4, none⟩ = some (.int .i64 a.ct) ∧ w.cell? ⟨p, o + 5, none⟩ = some (.int .i64 a.sh)) ∧ (w.frozen? ⟨p, o, none⟩ = false ∧ w.frozen? ⟨p, o + 1, none⟩ = false ∧ w.frozen? ⟨p, o + 2, none⟩ = false ∧ w.frozen? ⟨p, o + 3, none⟩ = false ∧ w.frozen? ⟨p, o + 4, none⟩ = false ∧ w.frozen? ⟨p, o + 5, none⟩ = false) ∧ p < w.heap.size :=
  ⟨⟨(h.r.cell (i := o) (by have := h.le; omega)).trans (by rw [h.c0]), (h.r.cell (i := o + 1) (by have := h.le; omega)).trans (by rw [h.c1]), (h.r.cell (i := o + 2) (by have := h.le; omega)).trans (by rw [h.c2]), (h.r.cell (i := o + 3) (by have := h.le; omega)).trans (by rw [h.c3]), (h.r.cell (i := o + 4) (by have := h.le; omega)).trans (by rw [h.c4]), (h.r.cell (i := o + 5) (by have := h.le; omega)).trans (by rw [h.c5])⟩, ⟨h.r.frozen (o), h.r.frozen (o + 1), h.r.frozen (o + 2), h.r.frozen (o + 3), h.r.frozen (o + 4), h.r.frozen (o + 5)⟩, h.r.lt⟩
theorem AlRow.set0 (h : AlRow T p m o F a w) (x : Int) : AlRow T p m o (fun j => if j = o then .int .i64 x else F j) ⟨x, a.lo, a.dl, a.st, a.ct, a.sh⟩ (w.setCell ⟨p, o, none⟩ (.int .i64 x)) :=
  ⟨h.r.set (o) _, h.le, by simp, by rw [if_neg (by omega)]; exact h.c1, by rw [if_neg (by omega)]; exact h.c2, by rw [if_neg (by omega)]; exact h.c3, by rw [if_neg (by omega)]; exact h.c4, by rw [if_neg (by omega)]; exact h.c5⟩
theorem AlRow.set1 (h : AlRow T p m o F a w) (x : Int) : AlRow T p m o (fun j => if j = o + 1 then .int .i64 x else F j) ⟨a.hi, x, a.dl, a.st, a.ct, a.sh⟩ (w.setCell ⟨p, o + 1, none⟩ (.int .i64 x)) :=
  ⟨h.r.set (o + 1) _, h.le, by rw [if_neg (by omega)]; exact h.c0, by simp, by rw [if_neg (by omega)]; exact h.c2, by rw [if_neg (by omega)]; exact h.c3, by rw [if_neg (by omega)]; exact h.c4, by rw [if_neg (by omega)]; exact h.c5⟩
theorem AlRow.set2 (h : AlRow T p m o F a w) (x : Int) : AlRow T p m o (fun j => if j = o + 2 then .int .i64 x else F j) ⟨a.hi, a.lo, x, a.st, a.ct, a.sh⟩ (w.setCell ⟨p, o + 2, none⟩ (.int .i64 x)) :=
  ⟨h.r.set (o + 2) _, h.le, by rw [if_neg (by omega)]; exact h.c0, by rw [if_neg (by omega)]; exact h.c1, by simp, by rw [if_neg (by omega)]; exact h.c3, by rw [if_neg (by omega)]; exact h.c4, by rw [if_neg (by omega)]; exact h.c5⟩
theorem AlRow.set3 (h : AlRow T p m o F a w) (x : Int) : AlRow T p m o (fun j => if j = o + 3 then .int .i64 x else F j) ⟨a.hi, a.lo, a.dl, x, a.ct, a.sh⟩ (w.setCell ⟨p, o + 3, none⟩ (.int .i64 x)) :=
  ⟨h.r.set (o + 3) _, h.le, by rw [if_neg (by omega)]; exact h.c0, by rw [if_neg (by omega)]; exact h.c1, by rw [if_neg (by omega)]; exact h.c2, by simp, by rw [if_neg (by omega)]; exact h.c4, by rw [if_neg (by omega)]; exact h.c5⟩
theorem AlRow.set4 (h : AlRow T p m o F a w) (x : Int) : AlRow T p m o (fun j => if j = o + 4 then .int .i64 x else F j) ⟨a.hi, a.lo, a.dl, a.st, x, a.sh⟩ (w.setCell ⟨p, o + 4, none⟩ (.int .i64 x)) :=
  ⟨h.r.set (o + 4) _, h.le, by rw [if_neg (by omega)]; exact h.c0, by rw [if_neg (by omega)]; exact h.c1, by rw [if_neg (by omega)]; exact h.c2, by rw [if_neg (by omega)]; exact h.c3, by simp, by rw [if_neg (by omega)]; exact h.c5⟩
theorem AlRow.set5 (h : AlRow T p m o F a w) (x : Int) : AlRow T p m o (fun j => if j = o + 5 then .int .i64 x else F j) ⟨a.hi, a.lo, a.dl, a.st, a.ct, x⟩ (w.setCell ⟨p, o + 5, none⟩ (.int .i64 x)) :=
  ⟨h.r.set (o + 5) _, h.le, by rw [if_neg (by omega)]; exact h.c0, by rw [if_neg (by omega)]; exact h.c1, by rw [if_neg (by omega)]; exact h.c2, by rw [if_neg (by omega)]; exact h.c3, by rw [if_neg (by omega)]; exact h.c4, by simp⟩
/-- What a method leaves behind: the alarm as it is now, all else of its block and of the older blocks as it was. -/
def AlEnd (T : TypeId) (p m o : Nat) (F : Nat → Value) (a : Al.A) (w w' : World) : Prop := ∃ F', AlRow T p m o F' a w' ∧ (∀ j, j < o ∨ o + 6 ≤ j → F' j = F j) ∧ Only p w w'
theorem AlRow.end_ (h : AlRow T p m o F a w) : AlEnd T p m o F a w w := ⟨F, h, fun _ _ => rfl, Only.refl _ _⟩
theorem AlEnd.cells (h : AlEnd T p m o F a w w') : (w'.cell? ⟨p, o, none⟩ = some (.int .i64 a.hi) ∧ w'.cell? ⟨p, o + 1, none⟩ = some (.int .i64 a.lo) ∧ w'.cell? ⟨p, o + 2, none⟩ = some (.int .i64 a.dl) ∧ w'.cell? ⟨p, o + 3, none⟩ = some (.int .i64 a.st) ∧ w'.cell? ⟨p, o + 4, none⟩ = some (.int .i64 a.ct) ∧ w'.cell? ⟨p, o + 5, none⟩ = some (.int .i64 a.sh)) ∧ (w'.frozen? ⟨p, o, none⟩ = false ∧ w'.frozen? ⟨p, o + 1, none⟩ = false ∧ w'.frozen? ⟨p, o + 2, none⟩ = false ∧ w'.frozen? ⟨p, o + 3, none⟩ = false ∧ w'.frozen? ⟨p, o + 4, none⟩ = false ∧ w'.frozen? ⟨p, o + 5, none⟩ = false) ∧ p < w'.heap.size := by
  obtain ⟨F', h1, _, _⟩ := h
  exact h1.cells
theorem AlEnd.set0 (h : AlEnd T p m o F a w w') (x : Int) : AlEnd T p m o F ⟨x, a.lo, a.dl, a.st, a.ct, a.sh⟩ w (w'.setCell ⟨p, o, none⟩ (.int .i64 x)) := by
  obtain ⟨F', h1, h2, h3⟩ := h
  exact ⟨_, h1.set0 x, fun j hj => by rw [if_neg (by omega)]; exact h2 j hj, h3.set _ _⟩
theorem AlEnd.set1 (h : AlEnd T p m o F a w w') (x : Int) : AlEnd T p m o F ⟨a.hi, x, a.dl, a.st, a.ct, a.sh⟩ w (w'.setCell ⟨p, o + 1, none⟩ (.int .i64 x)) := by
  obtain ⟨F', h1, h2, h3⟩ := h
  exact ⟨_, h1.set1 x, fun j hj => by rw [if_neg (by omega)]; exact h2 j hj, h3.set _ _⟩
theorem AlEnd.set2 (h : AlEnd T p m o F a w w') (x : Int) : AlEnd T p m o F ⟨a.hi, a.lo, x, a.st, a.ct, a.sh⟩ w (w'.setCell ⟨p, o + 2, none⟩ (.int .i64 x)) := by
  obtain ⟨F', h1, h2, h3⟩ := h
  exact ⟨_, h1.set2 x, fun j hj => by rw [if_neg (by omega)]; exact h2 j hj, h3.set _ _⟩
theorem AlEnd.set3 (h : AlEnd T p m o F a w w') (x : Int) : AlEnd T p m o F ⟨a.hi, a.lo, a.dl, x, a.ct, a.sh⟩ w (w'.setCell ⟨p, o + 3, none⟩ (.int .i64 x)) := by
  obtain ⟨F', h1, h2, h3⟩ := h
  exact ⟨_, h1.set3 x, fun j hj => by rw [if_neg (by omega)]; exact h2 j hj, h3.set _ _⟩
theorem AlEnd.set4 (h : AlEnd T p m o F a w w') (x : Int) : AlEnd T p m o F ⟨a.hi, a.lo, a.dl, a.st, x, a.sh⟩ w (w'.setCell ⟨p, o + 4, none⟩ (.int .i64 x)) := by
  obtain ⟨F', h1, h2, h3⟩ := h
  exact ⟨_, h1.set4 x, fun j hj => by rw [if_neg (by omega)]; exact h2 j hj, h3.set _ _⟩
theorem AlEnd.set5 (h : AlEnd T p m o F a w w') (x : Int) : AlEnd T p m o F ⟨a.hi, a.lo, a.dl, a.st, a.ct, x⟩ w (w'.setCell ⟨p, o + 5, none⟩ (.int .i64 x)) := by
  obtain ⟨F', h1, h2, h3⟩ := h
  exact ⟨_, h1.set5 x, fun j hj => by rw [if_neg (by omega)]; exact h2 j hj, h3.set _ _⟩
theorem Only.bel {g : Nat} {w w' w'' : World} (h : Only g w w') (hb : Below w'.heap.size w' w'') : Only g w w'' := ⟨hb.os.trans h.os, hb.tape.trans h.tape, hb.output.trans h.output, Nat.le_trans h.size hb.size, fun k hk hn => (hb.block k (Nat.lt_of_lt_of_le hk h.size)).trans (h.block k hk hn)⟩
theorem Only.more {g : Nat} {w w' w'' : World} (h : Only g w w') (k : Only g w' w'') : Only g w w'' := ⟨k.os.trans h.os, k.tape.trans h.tape, k.output.trans h.output, Nat.le_trans h.size k.size, fun j hj hn => (k.block j (Nat.lt_of_lt_of_le hj h.size) hn).trans (h.block j hj hn)⟩
theorem AlRow.bel (h : AlRow T p m o F a w) (hb : Below w.heap.size w w') : AlRow T p m o F a w' := ⟨nrow_below h.r hb, h.le, h.c0, h.c1, h.c2, h.c3, h.c4, h.c5⟩
theorem AlEnd.bel (h : AlEnd T p m o F a w w') (hb : Below w'.heap.size w' w'') : AlEnd T p m o F a w w'' := by
  obtain ⟨F', h1, h2, h3⟩ := h
  exact ⟨F', h1.bel hb, h2, h3.bel hb⟩
theorem AlEnd.from_ (h : AlEnd T p m o F a w' w'') (hb : Below w.heap.size w w') : AlEnd T p m o F a w w'' := by
  obtain ⟨F', h1, h2, h3⟩ := h
  exact ⟨F', h1, h2, (Only.of_below hb).more h3⟩
end
set_option maxRecDepth 100000 in
set_option maxHeartbeats 2000000 in
theorem asee_any (T : TypeId) (p m o : Nat) (F : Nat → Value) (a : Al.A)  (w : World) (h : AlRow T p m o F a w) :
    Calls Tryd.prog 76 #[.pointer (some ⟨p, o, none⟩)] w fun e w' => e = .returned (.tuple #[]) ∧ AlEnd T p m o F (Al.see a) w w' := by
  obtain ⟨⟨c0, c1, c2, c3, c4, c5⟩, ⟨f0, f1, f2, f3, f4, f5⟩, hp⟩ := h.cells
  have S := Lib.hid h.end_
  clear h
  by_cases s1 : a.st = 2
  · have HE : Hid (Al.see a = ⟨a.hi, a.lo, a.dl, 3, a.ct, a.sh⟩) := by show _ = _; unfold Al.see; rw [if_pos s1]
    have z1 : (a.st == 2) = true := by simp [s1]
    clear s1
    go_enter Tryd.func76, Tryd.ntmps76
    go_wp2_with fail
    exact bodyPost_end (v := .tuple #[]) (by simp [results, Tryd.results76, go_sem]) rfl ⟨rfl, by rw [HE.out]; exact S.out.set3 3⟩
  by_cases s2 : a.st = 4
  · have HE : Hid (Al.see a = ⟨a.hi, a.lo, a.dl, 1, a.ct, a.sh⟩) := by show _ = _; unfold Al.see; rw [if_neg s1, if_pos s2]
    have z1 : (a.st == 2) = false := by simpa using s1
    have z2 : (a.st == 4) = true := by simp [s2]
    clear s1 s2
    go_enter Tryd.func76, Tryd.ntmps76
    go_wp2_with fail
    exact bodyPost_end (v := .tuple #[]) (by simp [results, Tryd.results76, go_sem]) rfl ⟨rfl, by rw [HE.out]; exact S.out.set3 1⟩
  have HE : Hid (Al.see a = a) := by show _ = _; unfold Al.see; rw [if_neg s1, if_neg s2]
  have z1 : (a.st == 2) = false := by simpa using s1
  have z2 : (a.st == 4) = false := by simpa using s2
  clear s1 s2
  go_enter Tryd.func76, Tryd.ntmps76
  go_wp2_with fail
  exact bodyPost_end (v := .tuple #[]) (by simp [results, Tryd.results76, go_sem]) rfl ⟨rfl, by rw [HE.out]; exact S.out⟩
set_option maxRecDepth 100000 in
set_option maxHeartbeats 2000000 in
theorem ashelve_any (T : TypeId) (p m o : Nat) (F : Nat → Value) (a : Al.A) (v : Int) (w : World) (h : AlRow T p m o F a w) :
    Calls Tryd.prog 77 #[.pointer (some ⟨p, o, none⟩), .int .i64 v] w fun e w' => e = .returned (.tuple #[]) ∧ AlEnd T p m o F (Al.shelve a v) w w' := by
  obtain ⟨⟨c0, c1, c2, c3, c4, c5⟩, ⟨f0, f1, f2, f3, f4, f5⟩, hp⟩ := h.cells
  have S := Lib.hid h.end_
  clear h
  by_cases s1 : 0 ≤ v ∧ v ≤ 1000
  · have HE : Hid (Al.shelve a v = ⟨a.hi, a.lo, a.dl, a.st, a.ct, v⟩) := by show _ = _; unfold Al.shelve; rw [if_pos s1]
    go_enter Tryd.func77, Tryd.ntmps77
    go_wp2_with fail
    refine (awithin_any _ _ _).mono ?_
    rintro e w1 ⟨rfl, rfl⟩
    rw [decide_eq_true s1]
    clear s1
    go_wp2_with fail
    exact bodyPost_end (v := .tuple #[]) (by simp [results, Tryd.results77, go_sem]) rfl ⟨rfl, by rw [HE.out]; exact S.out.set5 v⟩
  have HE : Hid (Al.shelve a v = a) := by show _ = _; unfold Al.shelve; rw [if_neg s1]
  go_enter Tryd.func77, Tryd.ntmps77
  go_wp2_with fail
  refine (awithin_any _ _ _).mono ?_
  rintro e w1 ⟨rfl, rfl⟩
  rw [decide_eq_false s1]
  clear s1
  go_wp2_with fail
  exact bodyPost_end (v := .tuple #[]) (by simp [results, Tryd.results77, go_sem]) rfl ⟨rfl, by rw [HE.out]; exact S.out⟩
set_option maxRecDepth 100000 in
set_option maxHeartbeats 2000000 in
theorem aquiet_any (T : TypeId) (p m o : Nat) (F : Nat → Value) (a : Al.A) (v : Int) (w : World) (h : AlRow T p m o F a w) :
    Calls Tryd.prog 95 #[.pointer (some ⟨p, o, none⟩), .int .i64 v] w fun e w' => e = .returned (.tuple #[]) ∧ AlEnd T p m o F (Al.quiet a v) w w' := by
  obtain ⟨⟨c0, c1, c2, c3, c4, c5⟩, ⟨f0, f1, f2, f3, f4, f5⟩, hp⟩ := h.cells
  have S := Lib.hid h.end_
  clear h
  by_cases s1 : a.lo ≤ v
  · have HE : Hid (Al.quiet a v = a) := by show _ = _; unfold Al.quiet; rw [if_pos s1]
    go_enter Tryd.func95, Tryd.ntmps95
    go_wp2_with fail
    exact bodyPost_ret (v := .tuple #[]) (by simp [results, Tryd.results95, go_sem]) rfl ⟨rfl, by rw [HE.out]; exact S.out⟩
  by_cases s2 : a.st = 2
  · have HE : Hid (Al.quiet a v = ⟨a.hi, a.lo, a.dl, 4, a.ct, a.sh⟩) := by show _ = _; unfold Al.quiet; rw [if_neg s1, if_pos s2]
    have z1 : (a.st == 2) = true := by simp [s2]
    clear s2
    go_enter Tryd.func95, Tryd.ntmps95
    go_wp2_with fail
    exact bodyPost_end (v := .tuple #[]) (by simp [results, Tryd.results95, go_sem]) rfl ⟨rfl, by rw [HE.out]; exact S.out.set3 4⟩
  have HE : Hid (Al.quiet a v = ⟨a.hi, a.lo, a.dl, 1, a.ct, a.sh⟩) := by show _ = _; unfold Al.quiet; rw [if_neg s1, if_neg s2]
  have z1 : (a.st == 2) = false := by simpa using s2
  clear s2
  go_enter Tryd.func95, Tryd.ntmps95
  go_wp2_with fail
  exact bodyPost_end (v := .tuple #[]) (by simp [results, Tryd.results95, go_sem]) rfl ⟨rfl, by rw [HE.out]; exact S.out.set3 1⟩
set_option maxRecDepth 100000 in
set_option maxHeartbeats 2000000 in
theorem aloud_any (T : TypeId) (p m o : Nat) (F : Nat → Value) (a : Al.A) (v : Int) (w : World) (h : AlRow T p m o F a w) (hr : Al.Right a) :
    Calls Tryd.prog 96 #[.pointer (some ⟨p, o, none⟩), .int .i64 v] w fun e w' => e = .returned (.tuple #[]) ∧ AlEnd T p m o F (Al.loud a v) w w' := by
  obtain ⟨⟨c0, c1, c2, c3, c4, c5⟩, ⟨f0, f1, f2, f3, f4, f5⟩, hp⟩ := h.cells
  have S := Lib.hid h.end_
  clear h
  have b0 : 0 ≤ a.ct ∧ a.ct ≤ 100 := ⟨hr.2.2.2.2.1.1, by have := hr.2.2.2.2.1.2; have := hr.2.2.2.1.2; omega⟩
  clear hr
  by_cases s1 : v ≤ a.hi
  · have HE : Hid (Al.loud a v = ⟨a.hi, a.lo, a.dl, a.st, 0, a.sh⟩) := by show _ = _; unfold Al.loud; rw [if_pos s1]
    go_enter Tryd.func96, Tryd.ntmps96
    go_wp2_with fail
    exact bodyPost_end (v := .tuple #[]) (by simp [results, Tryd.results96, go_sem]) rfl ⟨rfl, by rw [HE.out]; exact S.out.set4 0⟩
  by_cases s2 : a.ct < a.dl
  · have HE : Hid (Al.loud a v = ⟨a.hi, a.lo, a.dl, a.st, a.ct + 1, a.sh⟩) := by show _ = _; unfold Al.loud; rw [if_neg s1, if_pos s2]
    go_enter Tryd.func96, Tryd.ntmps96
    go_wp2_with fail
    go_region
    go_wp2_with fail
    exact bodyPost_end (v := .tuple #[]) (by simp [results, Tryd.results96, go_sem]) rfl ⟨rfl, by rw [HE.out]; exact (S.out.bel (Below.refl _ _).drew).set4 (a.ct + 1)⟩
  have HE : Hid (Al.loud a v = ⟨a.hi, a.lo, a.dl, 2, 0, a.sh⟩) := by show _ = _; unfold Al.loud; rw [if_neg s1, if_neg s2]
  go_enter Tryd.func96, Tryd.ntmps96
  go_wp2_with fail
  go_region
  go_wp2_with fail
  exact bodyPost_end (v := .tuple #[]) (by simp [results, Tryd.results96, go_sem]) rfl ⟨rfl, by rw [HE.out]; exact ((S.out.bel (Below.refl _ _).drew).set3 2).set4 0⟩
set_option maxRecDepth 100000 in
set_option maxHeartbeats 2000000 in
theorem atake_any (T : TypeId) (p m o : Nat) (F : Nat → Value) (a : Al.A) (v : Int) (w : World) (h : AlRow T p m o F a w) (hr : Al.Right a) :
    Calls Tryd.prog 75 #[.pointer (some ⟨p, o, none⟩), .int .i64 v] w fun e w' => e = .returned (.tuple #[]) ∧ AlEnd T p m o F (Al.take a v) w w' := by
  obtain ⟨⟨c0, c1, c2, c3, c4, c5⟩, ⟨f0, f1, f2, f3, f4, f5⟩, hp⟩ := h.cells
  have S := Lib.hid h.end_
  have h0 := h
  clear h
  have HR := Lib.hid hr
  have H := Lib.hid h0
  clear h0
  have b0 : 0 ≤ a.sh ∧ a.sh ≤ 1000 := hr.2.2.2.2.2.2
  clear hr
  by_cases s1 : 0 < a.sh
  · have HE : Hid (Al.take a v = ⟨a.hi, a.lo, a.dl, a.st, 0, a.sh - 1⟩) := by show _ = _; unfold Al.take; rw [if_pos s1]
    go_enter Tryd.func75, Tryd.ntmps75
    go_wp2_with fail
    exact bodyPost_end (v := .tuple #[]) (by simp [results, Tryd.results75, go_sem]) rfl ⟨rfl, by rw [HE.out]; exact (S.out.set5 (a.sh - 1)).set4 0⟩
  by_cases s2 : a.st = 2
  · have HE : Hid (Al.take a v = Al.quiet a v) := by show _ = _; unfold Al.take; rw [if_neg s1, if_pos (Or.inl s2)]
    have z1 : (a.st == 2) = true := by simp [s2]
    clear s2
    go_enter Tryd.func75, Tryd.ntmps75
    go_wp2_with fail
    refine (aquiet_any T p m o F a v _ H.out).mono ?_
    rintro e w1 ⟨rfl, hS⟩
    have S1 := Lib.hid hS
    clear hS S c0 c1 c2 c3 c4 c5 f0 f1 f2 f3 f4 f5 hp
    go_wp2_with fail
    exact bodyPost_end (v := .tuple #[]) (by simp [results, Tryd.results75, go_sem]) rfl ⟨rfl, by rw [HE.out]; exact S1.out⟩
  have z1 : (a.st == 2) = false := by simpa using s2
  by_cases s3 : a.st = 3
  · have HE : Hid (Al.take a v = Al.quiet a v) := by show _ = _; unfold Al.take; rw [if_neg s1, if_pos (Or.inr s3)]
    have z2 : (a.st == 3) = true := by simp [s3]
    clear s2 s3
    go_enter Tryd.func75, Tryd.ntmps75
    go_wp2_with fail
    refine (aquiet_any T p m o F a v _ H.out).mono ?_
    rintro e w1 ⟨rfl, hS⟩
    have S1 := Lib.hid hS
    clear hS S c0 c1 c2 c3 c4 c5 f0 f1 f2 f3 f4 f5 hp
    go_wp2_with fail
    exact bodyPost_end (v := .tuple #[]) (by simp [results, Tryd.results75, go_sem]) rfl ⟨rfl, by rw [HE.out]; exact S1.out⟩
  have z2 : (a.st == 3) = false := by simpa using s3
  have HE : Hid (Al.take a v = Al.loud a v) := by show _ = _; unfold Al.take; rw [if_neg s1, if_neg (by omega)]
  clear s2 s3
  go_enter Tryd.func75, Tryd.ntmps75
  go_wp2_with fail
  refine (aloud_any T p m o F a v _ H.out HR.out).mono ?_
  rintro e w1 ⟨rfl, hS⟩
  have S1 := Lib.hid hS
  clear hS S c0 c1 c2 c3 c4 c5 f0 f1 f2 f3 f4 f5 hp
  go_wp2_with fail
  exact bodyPost_end (v := .tuple #[]) (by simp [results, Tryd.results75, go_sem]) rfl ⟨rfl, by rw [HE.out]; exact S1.out⟩
set_option maxRecDepth 100000 in
set_option maxHeartbeats 2000000 in
theorem ameet_any (T : TypeId) (p m o : Nat) (F : Nat → Value) (a : Al.A) (k v : Int) (w : World) (h : AlRow T p m o F a w) (hr : Al.Right a) (hk : 1 ≤ k ∧ k ≤ 3) :
    Calls Tryd.prog 45 #[.pointer (some ⟨p, o, none⟩), .agg #[.int .i64 k, .int .i64 v]] w fun e w' => e = .returned (.tuple #[]) ∧ AlEnd T p m o F (Al.meet a k v) w w' := by
  obtain ⟨W, hW⟩ : ∃ W, W = w.alloc (.cells #[.int .i64 k, .int .i64 v] 50) := ⟨_, rfl⟩
  have HB : Hid (Below w.heap.size w W) := by show Below _ _ _; rw [hW]; exact nbel_alloc _ _
  have H := Lib.hid (h.bel HB.out)
  have HR := Lib.hid hr
  have HW := Lib.hid hW
  clear h hr hW
  have hc : k = 1 ∨ k = 2 ∨ k = 3 := by omega
  clear hk
  rcases hc with rfl | rfl | rfl
  · have HE : Hid (Al.meet a 1 v = Al.take a v) := rfl
    go_enter Tryd.func45, Tryd.ntmps45
    go_wp2_with fail
    rw [← HW.out]
    clear HW
    refine (atake_any T p m o F a v _ H.out HR.out).mono ?_
    rintro e w1 ⟨rfl, hS⟩
    have S1 := Lib.hid (hS.from_ HB.out)
    clear hS
    go_wp2_with fail
    exact bodyPost_end (v := .tuple #[]) (by simp [results, Tryd.results45, go_sem]) rfl ⟨rfl, by rw [HE.out]; exact S1.out⟩
  · have HE : Hid (Al.meet a 2 v = Al.see a) := rfl
    go_enter Tryd.func45, Tryd.ntmps45
    go_wp2_with fail
    rw [← HW.out]
    clear HW
    refine (asee_any T p m o F a _ H.out).mono ?_
    rintro e w1 ⟨rfl, hS⟩
    have S1 := Lib.hid (hS.from_ HB.out)
    clear hS
    go_wp2_with fail
    exact bodyPost_end (v := .tuple #[]) (by simp [results, Tryd.results45, go_sem]) rfl ⟨rfl, by rw [HE.out]; exact S1.out⟩
  · have HE : Hid (Al.meet a 3 v = Al.shelve a v) := rfl
    go_enter Tryd.func45, Tryd.ntmps45
    go_wp2_with fail
    rw [← HW.out]
    clear HW
    refine (ashelve_any T p m o F a v _ H.out).mono ?_
    rintro e w1 ⟨rfl, hS⟩
    have S1 := Lib.hid (hS.from_ HB.out)
    clear hS
    go_wp2_with fail
    exact bodyPost_end (v := .tuple #[]) (by simp [results, Tryd.results45, go_sem]) rfl ⟨rfl, by rw [HE.out]; exact S1.out⟩
set_option maxRecDepth 100000 in
set_option maxHeartbeats 2000000 in
theorem implAct_any (a : Al.A) (k v : Int) (w : World) :
    Calls Tryd.prog 14 #[alV a, .agg #[.int .i64 k, .int .i64 v]] w fun e w' => e = .returned (alV (Al.act a k v)) ∧ Below w.heap.size w w' := by
  obtain ⟨W, hW⟩ : ∃ W, W = ((w.alloc (.cells #[.int .i64 a.hi, .int .i64 a.lo, .int .i64 a.dl, .int .i64 a.st, .int .i64 a.ct, .int .i64 a.sh] 40)).alloc (.cells #[.int .i64 k, .int .i64 v] 50)).alloc (.cells #[.int .i64 0, .int .i64 0, .int .i64 0, .int .i64 0, .int .i64 0, .int .i64 0] 40) := ⟨_, rfl⟩
  have HB : Hid (Below w.heap.size w W) := by show Below _ _ _; rw [hW]; exact ((nbel_alloc _ _).alloc (by simp) _).alloc (by simp; omega) _
  have HA : Hid (W.rowIs w.heap.size 40 6 (rowN (alL a))) := by show World.rowIs _ _ _ _ _; rw [hW]; exact nrow_below (nrow_below (rowN_alloc w _ _) (nbel_alloc _ _)) (nbel_alloc _ _)
  have HK : Hid (W.rowIs (w.heap.size + 1) 50 2 (rowN [.int .i64 k, .int .i64 v])) := by show World.rowIs _ _ _ _ _; rw [hW]; exact nrow_below (rowN_alloc' (by simp) _ _) (nbel_alloc _ _)
  have HO : Hid (W.rowIs (w.heap.size + 1 + 1) 40 6 (rowN (alL Al.none))) := by show World.rowIs _ _ _ _ _; rw [hW]; exact rowN_alloc' (by simp) _ _
  have HW := Lib.hid hW
  clear hW
  go_enter Tryd.func14, Tryd.ntmps14
  go_wp2_with fail
  rw [← HW.out]
  clear HW
  refine (alarmRight_any a _).mono ?_
  rintro e w1 ⟨rfl, hb⟩
  have HB1 : Hid (Below w.heap.size w w1) := HB.out.trans (hb.mono HB.out.size)
  have HA1 := Lib.hid (nrow_below HA.out hb)
  have HK1 := Lib.hid (nrow_below HK.out hb)
  have HO1 := Lib.hid (nrow_below HO.out hb)
  clear hb HB HA HK HO
  by_cases c : Al.Right a
  case neg =>
    rw [decide_eq_false c]
    have HE : Hid (Al.act a k v = a) := Al.act_no (fun h => c h.1)
    clear c
    obtain ⟨⟨x0, x1, x2, x3, x4, x5⟩, _⟩ := rowN6 HA1.out
    obtain ⟨⟨o0, o1, o2, o3, o4, o5⟩, z0, z1, z2, z3, z4, z5⟩ := rowN6 HO1.out
    have hol := HO1.out.lt
    have zr := al6put HO1.out rfl (.int .i64 a.hi) (.int .i64 a.lo) (.int .i64 a.dl) (.int .i64 a.st) (.int .i64 a.ct) (.int .i64 a.sh)
    have zb := al6bel (g := w.heap.size + 1 + 1) HB1.out (by omega) (.int .i64 a.hi) (.int .i64 a.lo) (.int .i64 a.dl) (.int .i64 a.st) (.int .i64 a.ct) (.int .i64 a.sh)
    have ZR := Lib.hid zr
    have ZB := Lib.hid zb
    clear zr zb
    go_wp2_with fail
    obtain ⟨⟨p0, p1, p2, p3, p4, p5⟩, _⟩ := rowN6 ZR.out
    exact bodyPost_ret (v := alV a) (by simp only [results, Tryd.results14]; simp [go_sem, p0, p1, p2, p3, p4, p5]) rfl ⟨by rw [HE.out], ZB.out⟩
  rw [decide_eq_true c]
  have HR := Lib.hid c
  clear c
  obtain ⟨⟨k0, k1⟩, _⟩ := rowN2 HK1.out
  go_wp2_with fail
  clear k0 k1
  refine (actRight_any k v _).mono ?_
  rintro e w2 ⟨rfl, hb⟩
  have HB2 : Hid (Below w.heap.size w w2) := HB1.out.trans (hb.mono HB1.out.size)
  have HA2 := Lib.hid (nrow_below HA1.out hb)
  have HK2 := Lib.hid (nrow_below HK1.out hb)
  have HO2 := Lib.hid (nrow_below HO1.out hb)
  clear hb HB1 HA1 HK1 HO1
  by_cases c : Al.ActOk k v
  case neg =>
    rw [decide_eq_false c]
    have HE : Hid (Al.act a k v = a) := Al.act_no (fun h => c h.2)
    clear c
    obtain ⟨⟨x0, x1, x2, x3, x4, x5⟩, _⟩ := rowN6 HA2.out
    obtain ⟨⟨o0, o1, o2, o3, o4, o5⟩, z0, z1, z2, z3, z4, z5⟩ := rowN6 HO2.out
    have hol := HO2.out.lt
    have zr := al6put HO2.out rfl (.int .i64 a.hi) (.int .i64 a.lo) (.int .i64 a.dl) (.int .i64 a.st) (.int .i64 a.ct) (.int .i64 a.sh)
    have zb := al6bel (g := w.heap.size + 1 + 1) HB2.out (by omega) (.int .i64 a.hi) (.int .i64 a.lo) (.int .i64 a.dl) (.int .i64 a.st) (.int .i64 a.ct) (.int .i64 a.sh)
    have ZR := Lib.hid zr
    have ZB := Lib.hid zb
    clear zr zb
    go_wp2_with fail
    obtain ⟨⟨p0, p1, p2, p3, p4, p5⟩, _⟩ := rowN6 ZR.out
    exact bodyPost_ret (v := alV a) (by simp only [results, Tryd.results14]; simp [go_sem, p0, p1, p2, p3, p4, p5]) rfl ⟨by rw [HE.out], ZB.out⟩
  rw [decide_eq_true c]
  have HE : Hid (Al.act a k v = Al.meet a k v) := Al.act_yes HR.out c
  have HC : Hid (1 ≤ k ∧ k ≤ 3) := c.1
  clear c
  obtain ⟨⟨k0, k1⟩, _⟩ := rowN2 HK2.out
  go_wp2_with fail
  clear k0 k1
  refine (ameet_any 40 w.heap.size 6 0 (rowN (alL a)) a k v _ ⟨HA2.out, by omega, rfl, rfl, rfl, rfl, rfl, rfl⟩ HR.out HC.out).mono ?_
  rintro e w3 ⟨rfl, hS⟩
  obtain ⟨X, hX⟩ : ∃ X, X = Al.meet a k v := ⟨_, rfl⟩
  rw [← hX] at hS HE
  have HA3 : Hid (w3.rowIs w.heap.size 40 6 (rowN (alL X))) := by
    obtain ⟨F', q, _, _⟩ := hS
    obtain ⟨cs, q1, q2, q3⟩ := q.r
    refine ⟨cs, q1, q2, fun i hi => ?_⟩
    rw [q3 i hi]
    have : i = 0 ∨ i = 1 ∨ i = 2 ∨ i = 3 ∨ i = 4 ∨ i = 5 := by omega
    rcases this with rfl | rfl | rfl | rfl | rfl | rfl
    · exact congrArg some q.c0
    · exact congrArg some q.c1
    · exact congrArg some q.c2
    · exact congrArg some q.c3
    · exact congrArg some q.c4
    · exact congrArg some q.c5
  have ho : Only w.heap.size w2 w3 := by obtain ⟨_, _, _, q⟩ := hS; exact q
  have HB3 : Hid (Below w.heap.size w w3) := HB2.out.trans (ho.below (Nat.le_refl _) HB2.out.size)
  have HO3 := Lib.hid (HO2.out.of_block (ho.block _ HO2.out.lt (by omega)))
  clear hS hX ho HB2 HA2 HK2 HO2
  obtain ⟨⟨x0, x1, x2, x3, x4, x5⟩, _⟩ := rowN6 HA3.out
  obtain ⟨⟨o0, o1, o2, o3, o4, o5⟩, z0, z1, z2, z3, z4, z5⟩ := rowN6 HO3.out
  have hol := HO3.out.lt
  have zr := al6put HO3.out rfl (.int .i64 X.hi) (.int .i64 X.lo) (.int .i64 X.dl) (.int .i64 X.st) (.int .i64 X.ct) (.int .i64 X.sh)
  have zb := al6bel (g := w.heap.size + 1 + 1) HB3.out (by omega) (.int .i64 X.hi) (.int .i64 X.lo) (.int .i64 X.dl) (.int .i64 X.st) (.int .i64 X.ct) (.int .i64 X.sh)
  have ZR := Lib.hid zr
  have ZB := Lib.hid zb
  clear zr zb
  go_wp2_with fail
  obtain ⟨⟨p0, p1, p2, p3, p4, p5⟩, _⟩ := rowN6 ZR.out
  exact bodyPost_ret (v := alV X) (by simp only [results, Tryd.results14]; simp [go_sem, p0, p1, p2, p3, p4, p5]) rfl ⟨by rw [HE.out], ZB.out⟩
end Go.Proofs.YtmejmpdljckfgaaDoor
