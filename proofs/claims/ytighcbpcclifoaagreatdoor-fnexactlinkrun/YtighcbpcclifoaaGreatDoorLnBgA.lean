/-
  Joined: LnMath3, LnPo, LnLo, LnS3, RegL, LnRs, LnWi, LnWj, LnRi, LnRj, LnEv, LnEx1, LnEx, LnEo, LnLawL.
-/
import Derived.Test.YtighcbpcclifoaaGreatDoorLnMath2
import Derived.Test.YtighcbpcclifoaaGreatDoorMuSh
import Derived.Conc.MuLone
import Derived.Laws.LoneSync
import Derived.Test.YtighcbpcclifoaaGreatDoorLnI3
import Derived.Test.YtighcbpcclifoaaGreatDoorLnSd
import Derived.Test.YtighcbpcclifoaaGreatDoorLnMt
import Derived.Test.YtighcbpcclifoaaGreatDoorReg
import Derived.Test.YtighcbpcclifoaaGreatDoorLnMs
import Derived.Test.YtighcbpcclifoaaGreatDoorLnS2
import Derived.Test.YtighcbpcclifoaaGreatDoorFrI7
import Derived.Test.YtighcbpcclifoaaGreatDoorStShelf
import Derived.Test.YtighcbpcclifoaaGreatDoorTextB
import Derived.Lib.ItoaLen
import Derived.Test.YtighcbpcclifoaaGreatDoorNtMem
import Derived.Test.YtighcbpcclifoaaGreatDoorLnMem
namespace Go.Proofs.YtighcbpcclifoaaGreatDoor
namespace Ln
def S.new (u b : Int) : S := ⟨u, b, false, 0, 1, [], 0⟩
def S.zero : S := ⟨0, 0, false, 0, 0, [], 0⟩
def M.new : M := ⟨0, [], 0⟩
/-- An event that is right: its kind and its value. -/
def EvOk (k v : Int) : Prop := (k = 1 ∧ -1000000 ≤ v ∧ v ≤ 1000000) ∨ (k = 2 ∧ 0 ≤ v ∧ v ≤ 2)
/-- Station and master behind an event. -/
noncomputable def meet (u : Int) (s : S × M) (k v : Int) : S × M :=
  if k = 1 then (s.1.note v, s.2) else if v = 2 then s else (if v = 0 then s.1.heard (s.2.take u s.1.send).seq else s.1, s.2.take u s.1.send)
/-- Behind n events. -/
noncomputable def run (u b : Int) (f : Nat → Int) : Nat → S × M
  | 0 => (S.new u b, M.new)
  | n + 1 => meet u (run u b f n) (f (n * 2)) (f (n * 2 + 1))
theorem meet_value (u : Int) (s : S) (m : M) {k v : Int} (h : k = 1) : meet u (s, m) k v = (s.note v, m) := by unfold meet; rw [if_pos h]
theorem meet_lost (u : Int) (s : S) (m : M) {k v : Int} (h : k ≠ 1) (h2 : v = 2) : meet u (s, m) k v = (s, m) := by unfold meet; rw [if_neg h, if_pos h2]
theorem meet_good (u : Int) (s : S) (m : M) {k v : Int} (h : k ≠ 1) (h2 : v = 0) : meet u (s, m) k v = (s.heard (m.take u s.send).seq, m.take u s.send) := by unfold meet; rw [if_neg h, if_neg (by omega), if_pos h2]
theorem meet_unheard (u : Int) (s : S) (m : M) {k v : Int} (h : k ≠ 1) (h2 : v ≠ 2) (h3 : v ≠ 0) : meet u (s, m) k v = (s, m.take u s.send) := by unfold meet; rw [if_neg h, if_neg h2, if_neg h3]
theorem run_at {u b : Int} {f : Nat → Int} {n : Nat} {s : S} {m : M} (h : run u b f n = (s, m)) : run u b f (n + 1) = meet u (s, m) (f (n * 2)) (f (n * 2 + 1)) := by show meet u (run u b f n) _ _ = _; rw [h]
theorem send_len (s : S) : s.send.length ≤ 640 := by
  by_cases k : s.Right
  · rw [S.send_yes k]
    have h1 := texts_len k.fine
    have h2 := k.2.1
    omega
  · rw [S.send_no k]; simp
theorem meet_len (u : Int) (s : S × M) (k v : Int) (h : s.1.wait.length ≤ 1048576 ∧ s.2.notes.length ≤ 1048576) : (meet u s k v).1.wait.length ≤ 1048576 ∧ (meet u s k v).2.notes.length ≤ 1048576 := by
  obtain ⟨s, m⟩ := s
  by_cases c : k = 1
  · rw [meet_value u s m c]; exact ⟨note_len1 s v h.1, h.2⟩
  by_cases c2 : v = 2
  · rw [meet_lost u s m c c2]; exact h
  by_cases c3 : v = 0
  · rw [meet_good u s m c c3]; exact ⟨heard_len1 s _ h.1, take_len m u _ h.2⟩
  · rw [meet_unheard u s m c c2 c3]; exact ⟨h.1, take_len m u _ h.2⟩
theorem run_len (u b : Int) (f : Nat → Int) (n : Nat) : (run u b f n).1.wait.length ≤ 1048576 ∧ (run u b f n).2.notes.length ≤ 1048576 := by
  induction n with
  | zero => exact ⟨by show (0 : Nat) ≤ _; omega, by show (0 : Nat) ≤ _; omega⟩
  | succ n ih => exact meet_len u _ _ _ ih
def EvsOk (f : Nat → Int) (n : Nat) : Prop := ∀ i, i < n → EvOk (f (i * 2)) (f (i * 2 + 1))
theorem EvsOk.zero (f : Nat → Int) : EvsOk f 0 := fun _ h => absurd h (Nat.not_lt_zero _)
theorem EvsOk.step {f : Nat → Int} {n : Nat} (h : EvsOk f n) (h1 : EvOk (f (n * 2)) (f (n * 2 + 1))) : EvsOk f (n + 1) := fun i hi => by
  by_cases c : i < n
  · exact h i c
  · obtain rfl : i = n := by omega
    exact h1
/-- A station that may be new. -/
def Fit (u b : Int) : Prop := (0 ≤ u ∧ u ≤ 250) ∧ (0 ≤ b ∧ b ≤ 1000000)
theorem new_right {u b : Int} : (S.new u b).Right ↔ Fit u b :=
  ⟨fun h => ⟨h.1.1, h.1.2.1⟩, fun h => ⟨⟨h.1, h.2, ⟨by show (-1000000 : Int) ≤ 0; omega, by show (0 : Int) ≤ 1000000; omega⟩, fun _ => rfl, ⟨by show (1 : Int) ≤ 1; omega, by show (1 : Int) ≤ 60000; omega⟩, ⟨by show (0 : Int) ≤ 0; omega, by show (0 : Int) ≤ 60000; omega⟩⟩, by show (0 : Nat) ≤ 40; omega, Wt.zero _ _⟩⟩
open Classical in
/-- A run's code. -/
noncomputable def lcode (u b : Int) (f : Nat → Int) (n : Nat) : Int := if 200 < n then 2 else if Fit u b ∧ EvsOk f n then 0 else 1
open Classical in
noncomputable def lst (u b : Int) (f : Nat → Int) (n : Nat) : S := if lcode u b f n = 0 then (run u b f n).1 else S.zero
open Classical in
noncomputable def lma (u b : Int) (f : Nat → Int) (n : Nat) : M := if lcode u b f n = 0 then (run u b f n).2 else M.new
theorem lout_big {u b : Int} {f : Nat → Int} {n : Nat} (h : 200 < n) : lcode u b f n = 2 ∧ lst u b f n = S.zero ∧ lma u b f n = M.new := by
  have e : lcode u b f n = 2 := if_pos h
  exact ⟨e, by unfold lst; rw [e, if_neg (by omega)], by unfold lma; rw [e, if_neg (by omega)]⟩
theorem lout_no {u b : Int} {f : Nat → Int} {n : Nat} (h : n ≤ 200) (h2 : ¬ (Fit u b ∧ EvsOk f n)) : lcode u b f n = 1 ∧ lst u b f n = S.zero ∧ lma u b f n = M.new := by
  have e : lcode u b f n = 1 := by unfold lcode; rw [if_neg (by omega), if_neg h2]
  exact ⟨e, by unfold lst; rw [e, if_neg (by omega)], by unfold lma; rw [e, if_neg (by omega)]⟩
theorem lout_yes {u b : Int} {f : Nat → Int} {n : Nat} (h : n ≤ 200) (h1 : Fit u b) (h2 : EvsOk f n) : lcode u b f n = 0 ∧ lst u b f n = (run u b f n).1 ∧ lma u b f n = (run u b f n).2 := by
  have e : lcode u b f n = 0 := by unfold lcode; rw [if_neg (by omega), if_pos ⟨h1, h2⟩]
  exact ⟨e, by unfold lst; rw [if_pos e], by unfold lma; rw [if_pos e]⟩
theorem lst_len (u b : Int) (f : Nat → Int) (n : Nat) : (lst u b f n).wait.length ≤ 1048576 := by
  unfold lst
  by_cases c : lcode u b f n = 0
  · rw [if_pos c]; exact (run_len u b f n).1
  · rw [if_neg c]; show (0 : Nat) ≤ _; omega
theorem lma_len (u b : Int) (f : Nat → Int) (n : Nat) : (lma u b f n).notes.length ≤ 1048576 := by
  unfold lma
  by_cases c : lcode u b f n = 0
  · rw [if_pos c]; exact (run_len u b f n).2
  · rw [if_neg c]; show (0 : Nat) ≤ _; omega
end Ln
end Go.Proofs.YtighcbpcclifoaaGreatDoor
namespace Go.Proofs.YtighcbpcclifoaaGreatDoor
open Go.RowKit Go.Deep Go.MuLone

theorem rowN10 {w : World} {g : Nat} {t : TypeId} {x0 x1 x2 x3 x4 x5 x6 x7 x8 x9 : Value} (h : w.rowIs g t 10 (rowN [x0, x1, x2, x3, x4, x5, x6, x7, x8, x9])) : (w.cell? ⟨g, 0, none⟩ = some x0 ∧ w.cell? ⟨g, 1, none⟩ = some x1 ∧ w.cell? ⟨g, 2, none⟩ = some x2 ∧ w.cell? ⟨g, 3, none⟩ = some x3 ∧ w.cell? ⟨g, 4, none⟩ = some x4 ∧ w.cell? ⟨g, 5, none⟩ = some x5 ∧ w.cell? ⟨g, 6, none⟩ = some x6 ∧ w.cell? ⟨g, 7, none⟩ = some x7 ∧ w.cell? ⟨g, 8, none⟩ = some x8 ∧ w.cell? ⟨g, 9, none⟩ = some x9) ∧ (w.frozen? ⟨g, 0, none⟩ = false ∧ w.frozen? ⟨g, 1, none⟩ = false ∧ w.frozen? ⟨g, 2, none⟩ = false ∧ w.frozen? ⟨g, 3, none⟩ = false ∧ w.frozen? ⟨g, 4, none⟩ = false ∧ w.frozen? ⟨g, 5, none⟩ = false ∧ w.frozen? ⟨g, 6, none⟩ = false ∧ w.frozen? ⟨g, 7, none⟩ = false ∧ w.frozen? ⟨g, 8, none⟩ = false ∧ w.frozen? ⟨g, 9, none⟩ = false) :=
  ⟨⟨h.cell (i := 0) (by omega), h.cell (i := 1) (by omega), h.cell (i := 2) (by omega), h.cell (i := 3) (by omega), h.cell (i := 4) (by omega), h.cell (i := 5) (by omega), h.cell (i := 6) (by omega), h.cell (i := 7) (by omega), h.cell (i := 8) (by omega), h.cell (i := 9) (by omega)⟩, ⟨h.frozen 0, h.frozen 1, h.frozen 2, h.frozen 3, h.frozen 4, h.frozen 5, h.frozen 6, h.frozen 7, h.frozen 8, h.frozen 9⟩⟩
theorem rowN5l {w : World} {g : Nat} {t : TypeId} {x0 x1 x2 x3 x4 : Value} (h : w.rowIs g t 5 (rowN [x0, x1, x2, x3, x4])) : (w.cell? ⟨g, 0, none⟩ = some x0 ∧ w.cell? ⟨g, 1, none⟩ = some x1 ∧ w.cell? ⟨g, 2, none⟩ = some x2 ∧ w.cell? ⟨g, 3, none⟩ = some x3 ∧ w.cell? ⟨g, 4, none⟩ = some x4) ∧ (w.frozen? ⟨g, 0, none⟩ = false ∧ w.frozen? ⟨g, 1, none⟩ = false ∧ w.frozen? ⟨g, 2, none⟩ = false ∧ w.frozen? ⟨g, 3, none⟩ = false ∧ w.frozen? ⟨g, 4, none⟩ = false) :=
  ⟨⟨h.cell (i := 0) (by omega), h.cell (i := 1) (by omega), h.cell (i := 2) (by omega), h.cell (i := 3) (by omega), h.cell (i := 4) (by omega)⟩, ⟨h.frozen 0, h.frozen 1, h.frozen 2, h.frozen 3, h.frozen 4⟩⟩
/-- A post in memory. -/
def poL (m : Int) (s : Ln.S) (a : Option Addr) (k : Nat) (n : Int) : List Value := [.int .i32 m, .int .u32 0, .int .i64 s.unit, .int .i64 s.band, .bool s.seen, .int .i64 s.last, .int .i64 s.next, .slice a s.wait.length k, .int .i64 s.drops, .int .i64 n]
/-- Nothing but block p has changed. -/
structure LnOnly (p : Nat) (w w' : World) : Prop where
  os : w'.os = w.os
  tape : w'.tape = w.tape
  output : w'.output = w.output
  size : w.heap.size ≤ w'.heap.size
  blk : ∀ q, q ≠ p → q < w.heap.size → w'.heap[q]? = w.heap[q]?
theorem LnOnly.set {p : Nat} (w : World) (i : Nat) (x : Value) : LnOnly p w (w.setCell ⟨p, i, none⟩ x) := ⟨rfl, rfl, rfl, by simp, fun q hq _ => bihs _ _ _ hq _ _⟩
theorem LnOnly.below {p : Nat} {w w' : World} (h : Below w.heap.size w w') : LnOnly p w w' := ⟨h.os, h.tape, h.output, h.size, fun q _ hq => h.block q hq⟩
theorem LnOnly.trans {p : Nat} {w w' w'' : World} (h : LnOnly p w w') (h2 : LnOnly p w' w'') : LnOnly p w w'' := ⟨h2.os.trans h.os, h2.tape.trans h.tape, h2.output.trans h.output, Nat.le_trans h.size h2.size, fun q hq hl => (h2.blk q hq (Nat.lt_of_lt_of_le hl h.size)).trans (h.blk q hq hl)⟩
theorem LnOnly.bel {p C : Nat} {w0 w w' : World} (h : LnOnly p w w') (hb : Below C w0 w) (hC : C ≤ p) (hC2 : C ≤ w.heap.size) : Below C w0 w' := hb.trans ⟨h.os, h.tape, h.output, h.size, fun q hq => h.blk q (by omega) (by omega)⟩
theorem LnOnly.row {p g n : Nat} {t : TypeId} {F : Nat → Value} {w w' : World} (h : LnOnly p w w') (hg : g ≠ p) (hr : w.rowIs g t n F) : w'.rowIs g t n F := hr.of_block (h.blk g hg hr.lt)
theorem LnOnly.own {p N : Nat} {B : Nat} {a : Option Addr} {f : Nat → Int} {w w' : World} (h : LnOnly p w w') (hp : p < B) (hq : NqOwn 37 B N a f w) : NqOwn 37 B N a f w' := hq.same (fun k hk hl => h.blk k (by omega) hl)
/-- A number of 64 bits. -/
def Nb (n : Int) : Prop := -9223372036854775808 ≤ n ∧ n ≤ 9223372036854775807
theorem nb_wrap (x : Int) : Nb (wrap64 x) := by unfold Nb; simp [wrap64]; omega
/-- Behind a method of a post. -/
def PoEnd (s : Ln.S) (n : Int) (p : Nat) (W W' : World) : Prop := ∃ a k, W'.rowIs p 107 10 (rowN (poL 0 s a k n)) ∧ NqOwn 37 W.heap.size s.wait.length a (Ln.fl s.wait) W' ∧ LnOnly p W W'
set_option maxRecDepth 100000 in
set_option maxHeartbeats 8000000 in
theorem poNote_any (s : Ln.S) (a : Option Addr) (k : Nat) (n v : Int) (p : Nat) (W : World) (hr : W.rowIs p 107 10 (rowN (poL 0 s a k n))) (h : NqOwn 37 (p + 1) s.wait.length a (Ln.fl s.wait) W) (hn : s.wait.length ≤ 1048576) :
    Calls Tryz.prog 58 #[.pointer (some ⟨p, 0, none⟩), .int .i64 v] W fun e W' => e = .returned (.tuple #[]) ∧ PoEnd (s.note v) n p W W' := by
  have hpl := hr.lt
  obtain ⟨⟨c0, c1, c2, c3, c4, c5, c6, c7, c8, c9⟩, f0, f1, f2, f3, f4, f5, f6, f7, f8, f9⟩ := rowN10 hr
  go_enter_defers Tryz.func58, Tryz.ntmps58
  go_wp2_with fail
  refine (lock_free Tryz.muLib ⟨p, 0, none⟩ _ c0 f0).mono ?_
  rintro e V ⟨rfl, hV⟩
  have RV : Hid (V.rowIs p 107 10 (rowN (poL 1 s a k n))) := by show V.rowIs _ _ _ _; rw [hV]; exact rowN_put hr 0 _ (by simp [poL])
  have OV : Hid (LnOnly p W V) := by show LnOnly _ _ _; rw [hV]; exact LnOnly.set W 0 _
  have HS := Lib.hid (OV.out.own (by omega) h)
  clear hV c0 c1 c2 c3 c4 c5 c6 c7 c8 c9 f0 f1 f2 f3 f4 f5 f6 f7 f8 f9 hr h
  obtain ⟨⟨c0, c1, c2, c3, c4, c5, c6, c7, c8, c9⟩, f0, f1, f2, f3, f4, f5, f6, f7, f8, f9⟩ := rowN10 RV.out
  go_wp2_with fail
  refine (implNote_any s a k v _ HS.out.in_ hn).mono ?_
  rintro e V2 ⟨⟨a2, k2, rfl, hq⟩, hb⟩
  obtain ⟨X, hX⟩ : ∃ X, X = s.note v := ⟨_, rfl⟩
  rw [← hX] at hq ⊢
  have HX := Lib.hid hX
  have RV2 := Lib.hid (nrow_below RV.out hb)
  have OV2 : Hid (LnOnly p W V2) := OV.out.trans (LnOnly.below hb)
  have HQ : Hid (NqOwn 37 W.heap.size X.wait.length a2 (Ln.fl X.wait) V2) := hq.low OV.out.size
  clear hX hq hb RV OV HS c0 c1 c2 c3 c4 c5 c6 c7 c8 c9 f0 f1 f2 f3 f4 f5 f6 f7 f8 f9
  obtain ⟨⟨c0, c1, c2, c3, c4, c5, c6, c7, c8, c9⟩, f0, f1, f2, f3, f4, f5, f6, f7, f8, f9⟩ := rowN10 RV2.out
  have hl0 := RV2.out.lt
  have R7 := Lib.hid (rowN_put (rowN_put (rowN_put (rowN_put (rowN_put (rowN_put (rowN_put RV2.out 2 (.int .i64 X.unit) (by simp [poL])) 3 (.int .i64 X.band) (by simp [poL])) 4 (.bool X.seen) (by simp [poL])) 5 (.int .i64 X.last) (by simp [poL])) 6 (.int .i64 X.next) (by simp [poL])) 7 (.slice a2 X.wait.length k2) (by simp [poL])) 8 (.int .i64 X.drops) (by simp [poL]))
  have O7 := Lib.hid (((((((LnOnly.set (p := p) V2 2 (.int .i64 X.unit)).trans (LnOnly.set _ 3 (.int .i64 X.band))).trans (LnOnly.set _ 4 (.bool X.seen))).trans (LnOnly.set _ 5 (.int .i64 X.last))).trans (LnOnly.set _ 6 (.int .i64 X.next))).trans (LnOnly.set _ 7 (.slice a2 X.wait.length k2))).trans (LnOnly.set _ 8 (.int .i64 X.drops)))
  go_wp2_with fail
  refine leaves_cons (f := 49) (args := #[.pointer (some ⟨p, 0, none⟩)]) (by simp) (by simp [go_sem]) ?_
  refine (unlock_deferred Tryz.muLib ⟨p, 0, none⟩ .returning _ ((rowN10 R7.out).1.1) ((rowN10 R7.out).2.1)).mono ?_
  rintro e u' w'' ⟨rfl, rfl, rfl⟩
  refine ⟨_, results_none rfl _ _ _, rfl, ?_⟩
  rw [← HX.out]
  exact ⟨a2, k2, rowN_put R7.out 0 (.int .i32 0) (by simp [poL]), (O7.out.trans (LnOnly.set _ 0 _)).own hpl HQ.out, OV2.out.trans (O7.out.trans (LnOnly.set _ 0 _))⟩
set_option maxRecDepth 100000 in
set_option maxHeartbeats 8000000 in
theorem poHear_any (s : Ln.S) (a : Option Addr) (k : Nat) (n v : Int) (p : Nat) (W : World) (hr : W.rowIs p 107 10 (rowN (poL 0 s a k n))) (h : NqOwn 37 (p + 1) s.wait.length a (Ln.fl s.wait) W) (hn : s.wait.length ≤ 1048576) :
    Calls Tryz.prog 78 #[.pointer (some ⟨p, 0, none⟩), .int .i64 v] W fun e W' => e = .returned (.tuple #[]) ∧ PoEnd (s.heard v) n p W W' := by
  have hpl := hr.lt
  obtain ⟨⟨c0, c1, c2, c3, c4, c5, c6, c7, c8, c9⟩, f0, f1, f2, f3, f4, f5, f6, f7, f8, f9⟩ := rowN10 hr
  go_enter_defers Tryz.func78, Tryz.ntmps78
  go_wp2_with fail
  refine (lock_free Tryz.muLib ⟨p, 0, none⟩ _ c0 f0).mono ?_
  rintro e V ⟨rfl, hV⟩
  have RV : Hid (V.rowIs p 107 10 (rowN (poL 1 s a k n))) := by show V.rowIs _ _ _ _; rw [hV]; exact rowN_put hr 0 _ (by simp [poL])
  have OV : Hid (LnOnly p W V) := by show LnOnly _ _ _; rw [hV]; exact LnOnly.set W 0 _
  have HS := Lib.hid (OV.out.own (by omega) h)
  clear hV c0 c1 c2 c3 c4 c5 c6 c7 c8 c9 f0 f1 f2 f3 f4 f5 f6 f7 f8 f9 hr h
  obtain ⟨⟨c0, c1, c2, c3, c4, c5, c6, c7, c8, c9⟩, f0, f1, f2, f3, f4, f5, f6, f7, f8, f9⟩ := rowN10 RV.out
  go_wp2_with fail
  refine (implHeard_any s a k v _ HS.out.in_ hn).mono ?_
  rintro e V2 ⟨⟨a2, k2, rfl, hq⟩, hb⟩
  obtain ⟨X, hX⟩ : ∃ X, X = s.heard v := ⟨_, rfl⟩
  rw [← hX] at hq ⊢
  have HX := Lib.hid hX
  have RV2 := Lib.hid (nrow_below RV.out hb)
  have OV2 : Hid (LnOnly p W V2) := OV.out.trans (LnOnly.below hb)
  have HQ : Hid (NqOwn 37 W.heap.size X.wait.length a2 (Ln.fl X.wait) V2) := hq.low OV.out.size
  clear hX hq hb RV OV HS c0 c1 c2 c3 c4 c5 c6 c7 c8 c9 f0 f1 f2 f3 f4 f5 f6 f7 f8 f9
  obtain ⟨⟨c0, c1, c2, c3, c4, c5, c6, c7, c8, c9⟩, f0, f1, f2, f3, f4, f5, f6, f7, f8, f9⟩ := rowN10 RV2.out
  have hl0 := RV2.out.lt
  have R7 := Lib.hid (rowN_put (rowN_put (rowN_put (rowN_put (rowN_put (rowN_put (rowN_put RV2.out 2 (.int .i64 X.unit) (by simp [poL])) 3 (.int .i64 X.band) (by simp [poL])) 4 (.bool X.seen) (by simp [poL])) 5 (.int .i64 X.last) (by simp [poL])) 6 (.int .i64 X.next) (by simp [poL])) 7 (.slice a2 X.wait.length k2) (by simp [poL])) 8 (.int .i64 X.drops) (by simp [poL]))
  have O7 := Lib.hid (((((((LnOnly.set (p := p) V2 2 (.int .i64 X.unit)).trans (LnOnly.set _ 3 (.int .i64 X.band))).trans (LnOnly.set _ 4 (.bool X.seen))).trans (LnOnly.set _ 5 (.int .i64 X.last))).trans (LnOnly.set _ 6 (.int .i64 X.next))).trans (LnOnly.set _ 7 (.slice a2 X.wait.length k2))).trans (LnOnly.set _ 8 (.int .i64 X.drops)))
  go_wp2_with fail
  refine leaves_cons (f := 49) (args := #[.pointer (some ⟨p, 0, none⟩)]) (by simp) (by simp [go_sem]) ?_
  refine (unlock_deferred Tryz.muLib ⟨p, 0, none⟩ .returning _ ((rowN10 R7.out).1.1) ((rowN10 R7.out).2.1)).mono ?_
  rintro e u' w'' ⟨rfl, rfl, rfl⟩
  refine ⟨_, results_none rfl _ _ _, rfl, ?_⟩
  rw [← HX.out]
  exact ⟨a2, k2, rowN_put R7.out 0 (.int .i32 0) (by simp [poL]), (O7.out.trans (LnOnly.set _ 0 _)).own hpl HQ.out, OV2.out.trans (O7.out.trans (LnOnly.set _ 0 _))⟩
set_option maxHeartbeats 800000 in
theorem at64_add (g i : Nat) (x y : Int) (w : World) (hc : w.cell? ⟨g, i, none⟩ = some (.int .i64 x)) (hz : w.frozen? ⟨g, i, none⟩ = false) :
    Calls Tryz.prog 100 #[.pointer (some ⟨g, i, none⟩), .int .i64 y] w fun e w' => ∃ z, Nb z ∧ e = .returned (.int .i64 z) ∧ w' = w.setCell ⟨g, i, none⟩ (.int .i64 z) := by
  have hadd := run_call_add (P := Tryz.prog) Tryz.func119 (by kernel_rfl) (by kernel_rfl) (by kernel_rfl) .i64 (by kernel_rfl) (y := y) (s := IntKind.i64.wrap (x + y)) hc hz (by simp [go_sem])
  go_enter Tryz.func100, Tryz.ntmps100
  go_wp2
  go_ret
  exact ⟨_, nb_wrap _, rfl, rfl⟩
set_option maxHeartbeats 800000 in
theorem at64_load (g i : Nat) (x : Int) (w : World) (hc : w.cell? ⟨g, i, none⟩ = some (.int .i64 x)) :
    Calls Tryz.prog 45 #[.pointer (some ⟨g, i, none⟩)] w fun e w' => e = .returned (.int .i64 x) ∧ w' = w := by
  have hload := run_call_load (P := Tryz.prog) Tryz.func61 (by kernel_rfl) (by kernel_rfl) (by kernel_rfl) .i64 (by kernel_rfl) hc
  go_enter Tryz.func45, Tryz.ntmps45
  go_wp2
  go_ret
  exact ⟨rfl, rfl⟩
set_option maxRecDepth 100000 in
set_option maxHeartbeats 8000000 in
theorem poAnswer_any (s : Ln.S) (a : Option Addr) (k : Nat) (n : Int) (p : Nat) (w0 W : World) (hr : W.rowIs p 107 10 (rowN (poL 0 s a k n))) (h : NqOwn 37 (p + 1) s.wait.length a (Ln.fl s.wait) W) (hn : s.wait.length ≤ 1048576) (hg : TabOk w0) (hw : Below w0.heap.size w0 W) (hp : w0.heap.size ≤ p) :
    Calls Tryz.prog 77 #[.pointer (some ⟨p, 0, none⟩)] W fun e W' => e = .returned (.string ⟨s.send.toArray⟩) ∧ (∃ n', Nb n' ∧ W'.rowIs p 107 10 (rowN (poL 0 s a k n'))) ∧ LnOnly p W W' := by
  have HG := Lib.hid hg
  have HW := Lib.hid hw
  clear hg hw
  have hpl := hr.lt
  obtain ⟨⟨c0, c1, c2, c3, c4, c5, c6, c7, c8, c9⟩, f0, f1, f2, f3, f4, f5, f6, f7, f8, f9⟩ := rowN10 hr
  go_enter_defers Tryz.func77, Tryz.ntmps77
  go_wp2_with fail
  refine (lock_free Tryz.muLib ⟨p, 0, none⟩ _ c0 f0).mono ?_
  rintro e V ⟨rfl, hV⟩
  have RV : Hid (V.rowIs p 107 10 (rowN (poL 1 s a k n))) := by show V.rowIs _ _ _ _; rw [hV]; exact rowN_put hr 0 _ (by simp [poL])
  have OV : Hid (LnOnly p W V) := by show LnOnly _ _ _; rw [hV]; exact LnOnly.set W 0 _
  have HS := Lib.hid (OV.out.own (by omega) h)
  clear hV c0 c1 c2 c3 c4 c5 c6 c7 c8 c9 f0 f1 f2 f3 f4 f5 f6 f7 f8 f9 hr h
  obtain ⟨⟨c0, c1, c2, c3, c4, c5, c6, c7, c8, c9⟩, f0, f1, f2, f3, f4, f5, f6, f7, f8, f9⟩ := rowN10 RV.out
  go_wp2_with fail
  refine (at64_add p 9 n 1 _ c9 f9).mono ?_
  rintro e V2 ⟨n2, hnb, rfl, hV2⟩
  have RV2 : Hid (V2.rowIs p 107 10 (rowN (poL 1 s a k n2))) := by show V2.rowIs _ _ _ _; rw [hV2]; exact rowN_put RV.out 9 _ (by simp [poL])
  have OV1 : Hid (LnOnly p V V2) := by show LnOnly _ _ _; rw [hV2]; exact LnOnly.set V 9 _
  have HS2 := Lib.hid (OV1.out.own (by omega) HS.out)
  have OV2 : Hid (LnOnly p W V2) := OV.out.trans OV1.out
  have HT : Hid (TabOk V2) := lntab HG.out (OV2.out.bel HW.out hp HW.out.size)
  clear hV2 RV OV OV1 HS c0 c1 c2 c3 c4 c5 c6 c7 c8 c9 f0 f1 f2 f3 f4 f5 f6 f7 f8 f9
  obtain ⟨⟨c0, c1, c2, c3, c4, c5, c6, c7, c8, c9⟩, f0, f1, f2, f3, f4, f5, f6, f7, f8, f9⟩ := rowN10 RV2.out
  go_wp2_with fail
  refine (implSend_any s a k _ HS2.out.in_ hn HT.out).mono ?_
  rintro e V3 ⟨rfl, hb⟩
  have RV3 := Lib.hid (nrow_below RV2.out hb)
  have OV3 : Hid (LnOnly p W V3) := OV2.out.trans (LnOnly.below hb)
  clear hb RV2 OV2 HT HS2 c0 c1 c2 c3 c4 c5 c6 c7 c8 c9 f0 f1 f2 f3 f4 f5 f6 f7 f8 f9
  go_wp2_with fail
  refine leaves_cons (f := 49) (args := #[.pointer (some ⟨p, 0, none⟩)]) (by simp) (by simp [go_sem]) ?_
  refine (unlock_deferred Tryz.muLib ⟨p, 0, none⟩ .returning _ ((rowN10 RV3.out).1.1) ((rowN10 RV3.out).2.1)).mono ?_
  rintro e u' w'' ⟨rfl, rfl, rfl⟩
  exact ⟨_, results_tmp rfl _ _ _, rfl, ⟨n2, hnb, rowN_put RV3.out 0 (.int .i32 0) (by simp [poL])⟩, OV3.out.trans (LnOnly.set _ 0 _)⟩
set_option maxRecDepth 100000 in
set_option maxHeartbeats 8000000 in
theorem poStation_any (s : Ln.S) (a : Option Addr) (k : Nat) (n : Int) (p : Nat) (w : World) (hr0 : w.rowIs p 107 10 (rowN (poL 0 s a k n))) :
    Calls Tryz.prog 26 #[.pointer (some ⟨p, 0, none⟩)] w fun e W' => e = .returned (stV s a k) ∧ LnOnly p w W' := by
  obtain ⟨W, hW⟩ : ∃ W, W = w.alloc stZO := ⟨_, rfl⟩
  have hpw := hr0.lt
  have hr : W.rowIs p 107 10 (rowN (poL 0 s a k n)) := by rw [hW]; exact nrow_below hr0 (nbel_alloc _ _)
  have HZ : Hid (W.rowIs w.heap.size 28 7 (rowN stZ)) := by show W.rowIs _ _ _ _; rw [hW]; exact rowN_alloc w stZ _
  have OW : Hid (LnOnly p w W) := by show LnOnly _ _ _; rw [hW]; exact LnOnly.below (nbel_alloc _ _)
  have HW := Lib.hid hW
  clear hW hr0
  obtain ⟨⟨c0, c1, c2, c3, c4, c5, c6, c7, c8, c9⟩, f0, f1, f2, f3, f4, f5, f6, f7, f8, f9⟩ := rowN10 hr
  rw [HW.out] at c0 f0
  go_enter_defers Tryz.func26, Tryz.ntmps26
  go_wp2_with fail
  refine (lock_free Tryz.muLib ⟨p, 0, none⟩ _ c0 f0).mono ?_
  rintro e V ⟨rfl, hV⟩
  rw [← HW.out] at hV
  have RV : Hid (V.rowIs p 107 10 (rowN (poL 1 s a k n))) := by show V.rowIs _ _ _ _; rw [hV]; exact rowN_put hr 0 _ (by simp [poL])
  have OV1 : Hid (LnOnly p W V) := by show LnOnly _ _ _; rw [hV]; exact LnOnly.set W 0 _
  have ZV := Lib.hid (OV1.out.row (by omega) HZ.out)
  have OV : Hid (LnOnly p w V) := OW.out.trans OV1.out
  clear hV c0 c1 c2 c3 c4 c5 c6 c7 c8 c9 f0 f1 f2 f3 f4 f5 f6 f7 f8 f9 hr HZ OW OV1 HW
  obtain ⟨⟨c0, c1, c2, c3, c4, c5, c6, c7, c8, c9⟩, f0, f1, f2, f3, f4, f5, f6, f7, f8, f9⟩ := rowN10 RV.out
  obtain ⟨⟨y0, y1, y2, y3, y4, y5, y6⟩, g0, g1, g2, g3, g4, g5, g6⟩ := rowN7 ZV.out
  have hl1 := ZV.out.lt
  have hl2 := RV.out.lt
  have R7 := Lib.hid (lput7 ZV.out rfl (.int .i64 s.unit) (.int .i64 s.band) (.bool s.seen) (.int .i64 s.last) (.int .i64 s.next) (.slice a s.wait.length k) (.int .i64 s.drops))
  have B7 : Hid (Below w.heap.size V (((((((V.setCell ⟨w.heap.size, 0, none⟩ (.int .i64 s.unit)).setCell ⟨w.heap.size, 1, none⟩ (.int .i64 s.band)).setCell ⟨w.heap.size, 2, none⟩ (.bool s.seen)).setCell ⟨w.heap.size, 3, none⟩ (.int .i64 s.last)).setCell ⟨w.heap.size, 4, none⟩ (.int .i64 s.next)).setCell ⟨w.heap.size, 5, none⟩ (.slice a s.wait.length k)).setCell ⟨w.heap.size, 6, none⟩ (.int .i64 s.drops))) := lbel7 (Below.refl _ _) (Nat.le_refl _) (.int .i64 s.unit) (.int .i64 s.band) (.bool s.seen) (.int .i64 s.last) (.int .i64 s.next) (.slice a s.wait.length k) (.int .i64 s.drops)
  have P7 : Hid ((((((((V.setCell ⟨w.heap.size, 0, none⟩ (.int .i64 s.unit)).setCell ⟨w.heap.size, 1, none⟩ (.int .i64 s.band)).setCell ⟨w.heap.size, 2, none⟩ (.bool s.seen)).setCell ⟨w.heap.size, 3, none⟩ (.int .i64 s.last)).setCell ⟨w.heap.size, 4, none⟩ (.int .i64 s.next)).setCell ⟨w.heap.size, 5, none⟩ (.slice a s.wait.length k)).setCell ⟨w.heap.size, 6, none⟩ (.int .i64 s.drops)).rowIs p 107 10 (rowN (poL 1 s a k n))) := RV.out.of_block (lblk7 (by omega) (.int .i64 s.unit) (.int .i64 s.band) (.bool s.seen) (.int .i64 s.last) (.int .i64 s.next) (.slice a s.wait.length k) (.int .i64 s.drops))
  go_wp2_with fail
  refine leaves_cons (f := 49) (args := #[.pointer (some ⟨p, 0, none⟩)]) (by simp) (by simp [go_sem]) ?_
  refine (unlock_deferred Tryz.muLib ⟨p, 0, none⟩ .returning _ ((rowN10 P7.out).1.1) ((rowN10 P7.out).2.1)).mono ?_
  rintro e u' w'' ⟨rfl, rfl, rfl⟩
  have R8 := Lib.hid ((LnOnly.set (p := p) _ 0 (.int .i32 0)).row (by omega) R7.out)
  have OF := Lib.hid (LnOnly.trans (p := p) ⟨B7.out.os.trans OV.out.os, B7.out.tape.trans OV.out.tape, B7.out.output.trans OV.out.output, Nat.le_trans OV.out.size B7.out.size, fun q hq hl => (lblk7 (by omega) _ _ _ _ _ _ _).trans (OV.out.blk q hq hl)⟩ (LnOnly.set _ 0 (.int .i32 0)))
  refine ⟨stV s a k, ?_, rfl, OF.out⟩
  clear OF P7 B7 R7 RV ZV OV y0 y1 y2 y3 y4 y5 y6 g0 g1 g2 g3 g4 g5 g6 c0 c1 c2 c3 c4 c5 c6 c7 c8 c9 f0 f1 f2 f3 f4 f5 f6 f7 f8 f9
  obtain ⟨⟨u0, u1, u2, u3, u4, u5, u6⟩, _⟩ := rowN7 R8.out
  simp only [results, Tryz.results26]
  simp [go_sem, u0, u1, u2, u3, u4, u5, u6, stV]
end Go.Proofs.YtighcbpcclifoaaGreatDoor
namespace Go.Proofs.YtighcbpcclifoaaGreatDoor
open Go.RowKit Go.Deep

def loZ : List Value := [.int .i64 0, .int .i64 0, .bool false, .int .i64 0, .int .i64 0, .slice none 0 0, .int .i64 0, .int .i64 0, .slice none 0 0, .int .i64 0, .int .i64 0]
/-- A LinkOut that owns its lists, and they part. -/
def LoEnd (s : Ln.S) (m : Ln.M) (c : Int) (B : Nat) (e : Ending) (W : World) : Prop := ∃ a k b l, e = .returned (loV s m a k b l c) ∧ NqOwn 37 B s.wait.length a (Ln.fl s.wait) W ∧ NqOwn 37 B m.notes.length b (Ln.fl m.notes) W ∧ (∀ g o g' o', s.wait.length ≠ 0 → m.notes.length ≠ 0 → a = some ⟨g, o, none⟩ → b = some ⟨g', o', none⟩ → g ≠ g')
theorem LoEnd.zero (c : Int) (B : Nat) (W : World) : LoEnd Ln.S.zero Ln.M.new c B (.returned (loV Ln.S.zero Ln.M.new none 0 none 0 c)) W := ⟨none, 0, none, 0, rfl, Or.inl rfl, Or.inl rfl, fun _ _ _ _ h => absurd rfl h⟩
end Go.Proofs.YtighcbpcclifoaaGreatDoor
namespace Go.Proofs.YtighcbpcclifoaaGreatDoor
open Go.RowKit Go.Deep

/-- What stands in the model's StationHeard while its list grows. -/
structure HdI (s : Ln.S) (a : Option Addr) (k X : Nat) (a5 : Option Addr) (k5 : Nat) (L : List Ln.Nt) (w W : World) : Prop where
  x : W.rowIs w.heap.size 28 7 (rowN (stL s a k))
  y : W.rowIs (w.heap.size + 1) 28 7 (rowN stZ)
  z : W.rowIs X 28 7 (rowN [.int .i64 s.unit, .int .i64 s.band, .bool s.seen, .int .i64 s.last, .int .i64 s.next, .slice a5 L.length k5, .int .i64 s.drops])
  own : W.ownsRow (w.heap.size + 2) 37 2 (.slice a5 L.length k5) L.length (nvs L)
  inn : IsIn a (s.wait.length * 2) (Ln.fl s.wait) W
  bel : Below w.heap.size w W
theorem HdI.below {s : Ln.S} {a : Option Addr} {k X : Nat} {a5 : Option Addr} {k5 : Nat} {L : List Ln.Nt} {w W W' : World} (h : HdI s a k X a5 k5 L w W) (hb : Below W.heap.size W W') : HdI s a k X a5 k5 L w W' :=
  ⟨nrow_below h.x hb, nrow_below h.y hb, nrow_below h.z hb, ownsRow_bel h.own hb, h.inn.below hb, h.bel.trans (hb.mono h.bel.size)⟩
/-- The list grew, and stands in the answer's block again. -/
theorem HdI.push {s : Ln.S} {a : Option Addr} {k X : Nat} {a5 a6 : Option Addr} {k5 k6 : Nat} {L L' : List Ln.Nt} {w W W' : World} (h : HdI s a k X a5 k5 L w W) (hin : IsIn a (s.wait.length * 2) (Ln.fl s.wait) w) (hX : w.heap.size + 2 ≤ X) (hg : W.grownBy W' (Value.slice a5 L.length k5).ownBlock) (hown : W'.ownsRow (w.heap.size + 2) 37 2 (.slice a6 L'.length k6) L'.length (nvs L')) :
    W'.rowIs X 28 7 (rowN [.int .i64 s.unit, .int .i64 s.band, .bool s.seen, .int .i64 s.last, .int .i64 s.next, .slice a5 L.length k5, .int .i64 s.drops]) ∧ W'.rowIs w.heap.size 28 7 (rowN (stL s a k)) ∧ Below w.heap.size w W' ∧ HdI s a k X a6 k6 L' w (W'.setCell ⟨X, 5, none⟩ (.slice a6 L'.length k6)) := by
  have hs := h.bel.size
  have ob : ∀ q, (Value.slice a5 L.length k5).ownBlock = some q → w.heap.size + 2 ≤ q := fun q hq => (h.own.lt q hq).1
  have ox := own_ne h.own h.z (by decide)
  have hz : W'.rowIs X 28 7 (rowN [.int .i64 s.unit, .int .i64 s.band, .bool s.seen, .int .i64 s.last, .int .i64 s.next, .slice a5 L.length k5, .int .i64 s.drops]) := h.z.of_block (hg.block _ h.z.lt (fun e => ox e.symm))
  have hx := h.x.of_block (hg.block _ h.x.lt (fun e => by have := ob _ e.symm; omega))
  have hy := h.y.of_block (hg.block _ h.y.lt (fun e => by have := ob _ e.symm; omega))
  have hb : Below w.heap.size w W' := h.bel.grown hg (by omega) (fun q hq => by have := ob q hq; omega)
  have hb2 : Below w.heap.size w (W'.setCell ⟨X, 5, none⟩ (.slice a6 L'.length k6)) := hb.setCell (p := ⟨X, 5, none⟩) (by show w.heap.size ≤ X; omega) _
  have ne6 := own_ne hown hz (by decide)
  refine ⟨hz, hx, hb, ⟨nrow_set hx (p := ⟨X, 5, none⟩) (by show w.heap.size ≠ X; omega) _, nrow_set hy (p := ⟨X, 5, none⟩) (by show w.heap.size + 1 ≠ X; omega) _, rowN_put hz 5 _ (by simp), ⟨hown.1, ?_⟩, hin.below hb2, hb2⟩⟩
  rcases hown.2 with h2 | ⟨g, cap, cur, e1, e2, e3, e4⟩
  · exact Or.inl h2
  · exact Or.inr ⟨g, cap, cur, e1, e2, by rw [bihs _ _ _ (fun e => ne6 (by rw [e1, e]; rfl))]; exact e3, e4⟩
set_option maxRecDepth 100000 in
set_option maxHeartbeats 16000000 in
theorem specHeard_any (s : Ln.S) (a : Option Addr) (k : Nat) (q : Int) (w : World) (h : IsIn a (s.wait.length * 2) (Ln.fl s.wait) w) (hn : s.wait.length ≤ 1048576) :
    Calls Tryz.prog 23 #[stV s a k, .int .i64 q] w fun e w' => StEnd (s.heard q) w.heap.size e w' ∧ Below w.heap.size w w' := by
  obtain ⟨i0, hi, hz0, hz1, hz2⟩ := info_parts linfo_note
  obtain ⟨W, hW⟩ : ∃ W, W = (w.alloc (stO s a k)).alloc stZO := ⟨_, rfl⟩
  have hsz : W.heap.size = w.heap.size + 2 := by rw [hW]; simp
  have HB : Hid (Below w.heap.size w W) := by show Below _ _ _; rw [hW]; exact ((Below.refl _ _).alloc (Nat.le_refl _) _).alloc (by simp) _
  have HX : Hid (W.rowIs w.heap.size 28 7 (rowN (stL s a k))) := by show W.rowIs _ _ _ _; rw [hW]; exact nrow_below (rowN_alloc w (stL s a k) _) (nbel_alloc _ _)
  have HY : Hid (W.rowIs (w.heap.size + 1) 28 7 (rowN stZ)) := by show W.rowIs _ _ _ _; rw [hW]; exact rowN_alloc' (by simp) stZ _
  have H := Lib.hid (h.below HB.out)
  have HN := Lib.hid hn
  have HW := Lib.hid hW
  have HSZ := Lib.hid hsz
  have h0 := h
  clear hW h hsz
  go_enter Tryz.func23, Tryz.ntmps23
  go_wp2_with fail
  rw [← HW.out]
  clear HW
  refine (specCopy_any s a k _ H.out HN.out).mono ?_
  rintro e w1 ⟨⟨a1, k1, rfl, hown⟩, hb⟩
  rw [HSZ.out] at hown
  obtain ⟨X, hX⟩ : ∃ X, X = w1.heap.size := ⟨_, rfl⟩
  obtain ⟨W2, hW2⟩ : ∃ W2, W2 = w1.alloc (stO s a1 k1) := ⟨_, rfl⟩
  have hXs : w.heap.size + 2 ≤ X := by rw [hX]; have := hb.size; rw [HSZ.out] at this; exact this
  have hb2 : Below w1.heap.size w1 W2 := by rw [hW2]; exact nbel_alloc _ _
  have hb3 := hb.trans (hb2.mono hb.size)
  have HX2 := Lib.hid (nrow_below HX.out hb3)
  have HY2 := Lib.hid (nrow_below HY.out hb3)
  have HB2 : Hid (Below w.heap.size w W2) := HB.out.trans (hb3.mono HB.out.size)
  have HA2 := Lib.hid (H.out.below hb3)
  have HO2 := Lib.hid (ownsRow_bel hown hb2)
  have HZ2 : Hid (W2.rowIs X 28 7 (rowN (stL s a1 k1))) := by show World.rowIs _ _ _ _ _; rw [hW2, hX]; exact rowN_alloc w1 (stL s a1 k1) _
  have HW2 := Lib.hid hW2
  have HXE := Lib.hid hX
  clear hb hb2 hb3 hown hW2 hX H HB HX HY HSZ
  have HA0 := Lib.hid h0
  obtain ⟨⟨x0, x1, x2, x3, x4, x5, x6⟩, _⟩ := rowN7 HX2.out
  have hl0 := HX2.out.lt
  rw [HW2.out] at x0 x1 x2 x3 x4 x5 x6
  go_wp2_with fail
  rw [← HW2.out, ← HXE.out]
  clear HW2 HXE x0 x1 x2 x3 x4 x5 x6 hl0
  refine (specSRight_any s a k _ HA2.out (by have := HN.out; omega)).mono ?_
  rintro e W3 ⟨rfl, hbg⟩
  have hb := hbg.bel
  have HX3 := Lib.hid (nrow_below HX2.out hb)
  have HY3 := Lib.hid (nrow_below HY2.out hb)
  have HZ3 := Lib.hid (nrow_below HZ2.out hb)
  have HB3 : Hid (Below w.heap.size w W3) := HB2.out.trans (hb.mono HB2.out.size)
  have HO3 := Lib.hid (ownsRow_bel HO2.out hb)
  clear hb hbg HX2 HY2 HZ2 HB2 HA2 HO2
  obtain ⟨⟨x0, x1, x2, x3, x4, x5, x6⟩, f0, f1, f2, f3, f4, f5, f6⟩ := rowN7 HX3.out
  obtain ⟨⟨y0, y1, y2, y3, y4, y5, y6⟩, g0, g1, g2, g3, g4, g5, g6⟩ := rowN7 HY3.out
  obtain ⟨⟨z0, z1, z2, z3, z4, z5, z6⟩, p0, p1, p2, p3, p4, p5, p6⟩ := rowN7 HZ3.out
  have hl0 := HX3.out.lt
  have hl1 := HY3.out.lt
  have hl2 := HZ3.out.lt
  have hX0 : ¬ X = w.heap.size := by omega
  have hX1 : ¬ X = w.heap.size + 1 := by omega
  have hX0' : ¬ w.heap.size = X := by omega
  have hX1' : ¬ w.heap.size + 1 = X := by omega
  by_cases ct : s.Right
  case neg =>
    rw [lB_ff ct]
    have HE : Hid (s.heard q = s) := Ln.S.heard_no ct
    clear ct
    obtain ⟨a1', c1', e1, hq, _⟩ := own_ns HO3.out
    cases e1
    have HQ3 := Lib.hid hq
    clear hq
    have zr := Lib.hid (lput7 HY3.out rfl (.int .i64 s.unit) (.int .i64 s.band) (.bool s.seen) (.int .i64 s.last) (.int .i64 s.next) (.slice a1 s.wait.length k1) (.int .i64 s.drops))
    have zb := Lib.hid (lbel7 HB3.out (g := w.heap.size + 1) (by omega) (.int .i64 s.unit) (.int .i64 s.band) (.bool s.seen) (.int .i64 s.last) (.int .i64 s.next) (.slice a1 s.wait.length k1) (.int .i64 s.drops))
    have zq : Hid (NqOwn 37 w.heap.size s.wait.length a1 (Ln.fl s.wait) ((((((((W3.setCell ⟨w.heap.size + 1, 0, none⟩ (.int .i64 s.unit)).setCell ⟨w.heap.size + 1, 1, none⟩ (.int .i64 s.band)).setCell ⟨w.heap.size + 1, 2, none⟩ (.bool s.seen)).setCell ⟨w.heap.size + 1, 3, none⟩ (.int .i64 s.last)).setCell ⟨w.heap.size + 1, 4, none⟩ (.int .i64 s.next)).setCell ⟨w.heap.size + 1, 5, none⟩ (.slice a1 s.wait.length k1)).setCell ⟨w.heap.size + 1, 6, none⟩ (.int .i64 s.drops)))) := (HQ3.out.same (fun k hk _ => lblk7 (by omega) _ _ _ _ _ _ _)).low (by omega)
    go_wp2_with fail
    refine bodyPost_ret (v := stV s a1 k1) ?_ rfl ⟨by rw [HE.out]; exact ⟨a1, k1, rfl, zq.out⟩, zb.out⟩
    obtain ⟨⟨u0, u1, u2, u3, u4, u5, u6⟩, _⟩ := rowN7 zr.out
    simp only [results, Tryz.results23]
    simp [go_sem, u0, u1, u2, u3, u4, u5, u6]
  rw [lB_tt ct]
  have HE : Hid (s.heard q = ⟨s.unit, s.band, s.seen, s.last, s.next, Ln.left q s.wait, s.drops⟩) := Ln.S.heard_yes ct
  have hw40 : s.wait.length ≤ 40 := ct.2.1
  clear ct
  have hs3 : w.heap.size + 2 ≤ W3.heap.size := by omega
  obtain ⟨V3, hV3⟩ : ∃ V3, V3 = W3.setCell ⟨X, 5, none⟩ (.slice (some ⟨W3.heap.size, 0, none⟩) 0 0) := ⟨_, rfl⟩
  have s3 : V3.heap.size = W3.heap.size := by rw [hV3]; simp
  obtain ⟨W4, hW4⟩ : ∃ W4, W4 = V3.alloc (.cells #[] 37) := ⟨_, rfl⟩
  have hb4 : Below V3.heap.size V3 W4 := by rw [hW4]; exact nbel_alloc _ _
  have HST : Hid (HdI s a k X (some ⟨W3.heap.size, 0, none⟩) 0 [] w W4) := by
    have hbz : Below w.heap.size w V3 := by rw [hV3]; exact HB3.out.setCell (p := ⟨X, 5, none⟩) (by show w.heap.size ≤ X; omega) _
    have hbz2 : Below w.heap.size w W4 := hbz.trans (hb4.mono hbz.size)
    have o1 := World.ownsRow_made (e := 37) (size := 2) V3 #[] 0 (Nat.le_refl _) (Nat.zero_le _) rfl
    rw [← hW4, s3] at o1
    refine ⟨nrow_below (by rw [hV3]; exact nrow_set HX3.out (p := ⟨X, 5, none⟩) (by show w.heap.size ≠ X; omega) _) hb4, nrow_below (by rw [hV3]; exact nrow_set HY3.out (p := ⟨X, 5, none⟩) (by show w.heap.size + 1 ≠ X; omega) _) hb4, nrow_below (by rw [hV3]; exact rowN_put HZ3.out 5 _ (by simp)) hb4, ⟨o1.1, ?_⟩, HA0.out.below hbz2, hbz2⟩
    rcases o1.2 with h2 | ⟨g, cap, cur, e1, e2, e3⟩
    · exact Or.inl h2
    · exact Or.inr ⟨g, cap, cur, e1, by omega, e3⟩
  have HW4 := Lib.hid hW4
  obtain ⟨b0, hb0⟩ : ∃ b, b = W3.heap.size := ⟨_, rfl⟩
  rw [HW4.out, hV3] at HST
  rw [← hb0] at HST
  have HB0 := Lib.hid hb0
  clear hW4 hb4 hb0 HW4 hV3 s3 HX3 HY3 HZ3 HB3 HO3
  go_wp2_with fail
  rw [← HB0.out]
  clear HB0 x0 x1 x2 x3 x4 x5 x6 f0 f1 f2 f3 f4 f5 f6 y0 y1 y2 y3 y4 y5 y6 g0 g1 g2 g3 g4 g5 g6 z0 z1 z2 z3 z4 z5 z6 p0 p1 p2 p3 p4 p5 p6 hl0 hl1 hl2 hs3
  obtain ⟨N, hN⟩ : ∃ N, N = s.wait.length := ⟨_, rfl⟩
  have HNN := Lib.hid hN
  rw [hN.symm] at hw40
  clear hN
  go_loopw [6] (fun iv wr => ∃ (i : Nat) (a5 : Option Addr) (k5 : Nat), i ≤ N ∧ iv = .int .i64 i ∧ Hid (HdI s a k X a5 k5 (Ln.left q (s.wait.take i)) w wr)) (fun iv _ => N - (intOf iv).toNat)
  case atStart => exact ⟨0, _, _, Nat.zero_le _, rfl, HST⟩
  case round =>
    obtain ⟨i, a5, k5, hiN, rfl, hS⟩ := hrel
    clear HST
    obtain ⟨L, hL⟩ : ∃ L, L = Ln.left q (s.wait.take i) := ⟨_, rfl⟩
    rw [← hL] at hS
    have HL := Lib.hid hL
    have HLL : Hid (L.length ≤ 40) := by show _ ≤ _; rw [hL]; have := Ln.left_len q (s.wait.take i); rw [List.length_take] at this; omega
    clear hL
    obtain ⟨M, hM⟩ : ∃ M, M = L.length := ⟨_, rfl⟩
    have HM := Lib.hid hM
    obtain ⟨⟨x0, x1, x2, x3, x4, x5, x6⟩, f0, f1, f2, f3, f4, f5, f6⟩ := rowN7 hS.out.x
    obtain ⟨⟨y0, y1, y2, y3, y4, y5, y6⟩, g0, g1, g2, g3, g4, g5, g6⟩ := rowN7 hS.out.y
    obtain ⟨⟨z0, z1, z2, z3, z4, z5, z6⟩, p0, p1, p2, p3, p4, p5, p6⟩ := rowN7 hS.out.z
    have hl0 := hS.out.x.lt
    have hl1 := hS.out.y.lt
    have hl2 := hS.out.z.lt
    rw [← hM] at z5
    rw [← HNN.out] at x5
    clear hM
    by_cases hlt : i < N
    · have hltz : (i : Int) < (N : Int) := by omega
      have HIL : Hid (i < s.wait.length) := by show _ < _; rw [← HNN.out]; exact hlt
      obtain ⟨b, o, rfl, c0, c1⟩ := hS.out.inn.at2 HIL.out
      obtain ⟨x, hx⟩ : ∃ x, x = Ln.fl s.wait (i * 2) := ⟨_, rfl⟩
      obtain ⟨y, hy⟩ : ∃ y, y = Ln.fl s.wait (i * 2 + 1) := ⟨_, rfl⟩
      rw [← hx] at c0
      rw [← hy] at c1
      have HX := Lib.hid hx
      have HY := Lib.hid hy
      have BLT : Hid (b < w.heap.size) := by
        obtain ⟨b', o', e', hc, _⟩ := HA0.out.at2 HIL.out
        cases e'
        exact World.block_lt_of_cell? _ _ hc
      clear hx hy
      by_cases cx : x ≤ q
      · have HE2 : Hid (Ln.left q (s.wait.take (i + 1)) = L) := by show _ = _; rw [Ln.left_take HIL.out, if_neg (by rw [← HX.out]; omega), List.append_nil, HL.out]
        have hcx : ¬ q < x := by omega
        clear cx
        go_wp2_with fail
        go_roundw
        case rel => exact ⟨i + 1, a5, k5, by omega, by go_num, by rw [HE2.out]; exact hS⟩
        case measure => simp [intOf]; omega
      have hcx : q < x := by omega
      have HE2 : Hid (Ln.left q (s.wait.take (i + 1)) = L ++ [(x, y)]) := by show _ = _; rw [Ln.left_take HIL.out, if_pos (by rw [← HX.out]; omega), HL.out, ← HX.out, ← HY.out]
      clear cx
      clear x0 x1 x2 x3 x4 x6 f0 f1 f2 f3 f4 f5 f6 y0 y1 y2 y3 y4 y5 y6 g0 g1 g2 g3 g4 g5 g6 z0 z1 z2 z3 z4 z6 p0 p1 p2 p3 p4 p5 p6 z5
      go_wp2_with fail
      refine wp_region_held_drew (S := fun V => V.rowIs w.heap.size 28 7 (rowN (stL s (some ⟨b, o, none⟩) k)) ∧ V.cell? ⟨b, o + i * 2, none⟩ = some (.int .i64 x) ∧ V.cell? ⟨b, o + i * 2 + 1, none⟩ = some (.int .i64 y) ∧ b ≠ X ∧ Below w.heap.size w V) (by kernel_rfl) ⟨hS.out.x.of_block rfl, c0, c1, ?_, hS.out.bel.drew⟩ (fun hHeld => ?_)
      · have := BLT.out
        omega
      obtain ⟨Z, hZ⟩ : ∃ Z, Z = wr.drew := ⟨_, rfl⟩
      have SZ : Hid (HdI s (some ⟨b, o, none⟩) k X a5 k5 L w Z) := by show HdI _ _ _ _ _ _ _ _ _; rw [hZ]; exact hS.out.below (Below.refl _ _).drew
      rw [← hZ] at hHeld ⊢
      clear hZ hS x5 c0 c1 hl0 hl1 hl2
      refine take_do (i := 0) (v := (.pointer (some ⟨X, 5, none⟩))) rfl (by kernel_rfl) (by kernel_rfl) (by kernel_rfl) (fun _ _ _ h => h) (by rfl) ?_ (by assumption) ?_
      · intro w hSw
        go_simp
      simp only [Act.put, List.setIfInBounds_toArray, List.set_cons_zero, List.set_cons_succ]
      refine take_do (i := 2) (v := (.pointer (some ⟨w.heap.size, 5, none⟩))) rfl (by kernel_rfl) (by kernel_rfl) (by kernel_rfl) (fun _ _ _ h => h) (by rfl) ?_ (by assumption) ?_
      · intro w hSw
        go_simp
      simp only [Act.put, List.setIfInBounds_toArray, List.set_cons_zero, List.set_cons_succ]
      refine take_do (i := 3) (v := (.slice (some ⟨b, o, none⟩) N k)) rfl (by kernel_rfl) (by kernel_rfl) (by kernel_rfl) (fun _ _ _ h => h) (by rfl) ?_ (by assumption) ?_
      · intro w hSw
        obtain ⟨⟨r0, r1, r2, r3, r4, r5, r6⟩, _⟩ := rowN7 hSw.1
        rw [← HNN.out] at r5
        obtain ⟨_, q0, q1, _⟩ := hSw
        go_simp
      simp only [Act.put, List.setIfInBounds_toArray, List.set_cons_zero, List.set_cons_succ]
      refine take_do (i := 4) (v := (.int .i64 i)) rfl (by kernel_rfl) (by kernel_rfl) (by kernel_rfl) (fun _ _ _ h => h) (by rfl) ?_ (by assumption) ?_
      · intro w hSw
        go_simp
      simp only [Act.put, List.setIfInBounds_toArray, List.set_cons_zero, List.set_cons_succ]
      refine take_do (i := 5) (v := (.pointer (some ⟨b, o + i * 2, none⟩))) rfl (by kernel_rfl) (by kernel_rfl) (by kernel_rfl) (fun _ _ _ h => h) (by rfl) ?_ (by assumption) ?_
      · intro w hSw
        go_simp
      simp only [Act.put, List.setIfInBounds_toArray, List.set_cons_zero, List.set_cons_succ]
      refine take_do (i := 6) (v := (.agg #[.int .i64 x, .int .i64 y])) rfl (by kernel_rfl) (by kernel_rfl) (by kernel_rfl) (fun _ _ _ h => h) (by rfl) ?_ (by assumption) ?_
      · intro w hSw
        obtain ⟨⟨r0, r1, r2, r3, r4, r5, r6⟩, _⟩ := rowN7 hSw.1
        rw [← HNN.out] at r5
        obtain ⟨_, q0, q1, _⟩ := hSw
        go_simp
      simp only [Act.put, List.setIfInBounds_toArray, List.set_cons_zero, List.set_cons_succ]
      refine wpAnyH_ready (rs := [1, 7]) (by kernel_rfl) (by simp) (AllReadyH.cons (at_drop (i := 1) rfl) (fun K2 hK => ?_) (AllReadyH.cons (at_drop (i := 7) rfl) (fun K2 hK => ?_) AllReadyH.nil))
      · obtain ⟨⟨z0, z1, z2, z3, z4, z5, z6⟩, _⟩ := rowN7 SZ.out.z
        rw [← HM.out] at z5
        go_simp
        refine hK.out _ _ hHeld (fun hHeld2 => ?_)
        clear hK hHeld z0 z1 z2 z3 z4 z5 z6
        have hHeld := hHeld2
        clear hHeld2
        refine take_call (i := 7) rfl (by kernel_rfl) (fun K2 hK => ?_)
        obtain ⟨Z1, hZ1⟩ : ∃ Z1, Z1 = Z.alloc (.cells #[.int .i64 x, .int .i64 y] 37) := ⟨_, rfl⟩
        have hb : Below Z.heap.size Z Z1 := by rw [hZ1]; exact nbel_alloc _ _
        obtain ⟨gx, hgx⟩ : ∃ gx, gx = Z.heap.size := ⟨_, rfl⟩
        have HM1 : Hid (IsIn (some ⟨gx, 0, none⟩) (([(x, y)] : List Ln.Nt).length * 2) (Ln.fl [(x, y)]) Z1) := by show IsIn _ _ _ _; rw [hZ1, hgx]; exact one_in Z 37 x y
        have SZ1 := Lib.hid (SZ.out.below hb)
        have hq : (fun V => V.rowIs w.heap.size 28 7 (rowN (stL s (some ⟨b, o, none⟩) k)) ∧ V.cell? ⟨b, o + i * 2, none⟩ = some (.int .i64 x) ∧ V.cell? ⟨b, o + i * 2 + 1, none⟩ = some (.int .i64 y) ∧ b ≠ X ∧ Below w.heap.size w V) Z1 := ⟨nrow_below hHeld.1 hb, (hb.cell (World.block_lt_of_cell? _ _ hHeld.2.1)).trans hHeld.2.1, (hb.cell (World.block_lt_of_cell? _ _ hHeld.2.2.1)).trans hHeld.2.2.1, hHeld.2.2.2.1, hHeld.2.2.2.2.trans (hb.mono hHeld.2.2.2.2.size)⟩
        go_simp
        rw [← hZ1, ← hgx]
        refine hK.out _ _ hq (fun hHeld2 => ?_)
        clear hK hHeld hb hq hZ1 hgx
        have hHeld := hHeld2
        clear hHeld2
        refine take_call (i := 8) rfl (by kernel_rfl) (fun K2 hK => ?_)
        have hsz := SZ1.out.x.lt
        have hsy := SZ1.out.y.lt
        refine step_append_ns rfl (.tmp 31) (.tmp 37) 26 rfl 37 i0 (.agg #[.int .i64 0, .int .i64 0]) 16 Tryz.underlying26 hi hz0 hz1 hz2 rfl (w.heap.size + 2) (.slice a5 M k5) L [(x, y)] rfl (by rw [HM.out]; exact SZ1.out.own) (some ⟨gx, 0, none⟩) 1 rfl HM1.out (by unfold maxLen; have := HLL.out; simp; omega) (by have := HLL.out; simp; omega) (by omega) ?_
        intro v6 Z2 hown hgrow
        obtain ⟨L2, hL2⟩ : ∃ L2, L2 = L ++ [(x, y)] := ⟨_, rfl⟩
        have hown2 : Z2.ownsRow (w.heap.size + 2) 37 2 v6 L2.length (nvs L2) := by rw [hL2]; exact hown
        rw [HM.out] at hgrow
        obtain ⟨a6, k6, rfl, _, _⟩ := own_ns hown2
        obtain ⟨hzr, hxr, hbl, hpush⟩ := SZ1.out.push HA0.out hXs hgrow hown2
        have HPU := Lib.hid hpush
        have hcc : ∀ c v, Z1.cell? ⟨b, c, none⟩ = some v → Z2.cell? ⟨b, c, none⟩ = some v := fun c v hv => by
          have hlb := BLT.out
          have e1 := SZ1.out.bel.block b hlb
          have e2 := hbl.block b hlb
          rw [World.cell?_of_block (a := ⟨b, c, none⟩) (e2.trans e1.symm)]
          exact hv
        have hq : (fun V => V.rowIs w.heap.size 28 7 (rowN (stL s (some ⟨b, o, none⟩) k)) ∧ V.cell? ⟨b, o + i * 2, none⟩ = some (.int .i64 x) ∧ V.cell? ⟨b, o + i * 2 + 1, none⟩ = some (.int .i64 y) ∧ b ≠ X ∧ Below w.heap.size w V) Z2 := ⟨hxr, hcc _ _ hHeld.2.1, hcc _ _ hHeld.2.2.1, hHeld.2.2.2.1, hbl⟩
        have HZR := Lib.hid hzr
        refine hK.out _ _ hq (fun hHeld2 => ?_)
        clear hK hHeld hq hown hown2 hgrow hxr hbl hpush hcc SZ SZ1 HM1 hsz hsy hzr
        have hHeld := hHeld2
        clear hHeld2
        simp only [Act.put, List.setIfInBounds_toArray, List.set_cons_zero, List.set_cons_succ]
        refine take_do (i := 9) (v := (.pointer (some ⟨X, 5, none⟩))) rfl (by kernel_rfl) (by kernel_rfl) (by kernel_rfl) (fun _ _ _ h => h) (by rfl) ?_ (by assumption) ?_
        · intro w hSw
          go_simp
        simp only [Act.put, List.setIfInBounds_toArray, List.set_cons_zero, List.set_cons_succ]
        obtain ⟨⟨z0, z1, z2, z3, z4, z5, z6⟩, p0, p1, p2, p3, p4, p5, p6⟩ := rowN7 HZR.out
        have hl2 := HZR.out.lt
        obtain ⟨WZ, hWZ⟩ : ∃ WZ, WZ = Z2.setCell ⟨X, 5, none⟩ (.slice a6 L2.length k6) := ⟨_, rfl⟩
        have SF : Hid (HdI s (some ⟨b, o, none⟩) k X a6 k6 L2 w WZ) := by show HdI _ _ _ _ _ _ _ _ _; rw [hWZ]; exact HPU.out
        have hq : (fun V => V.rowIs w.heap.size 28 7 (rowN (stL s (some ⟨b, o, none⟩) k)) ∧ V.cell? ⟨b, o + i * 2, none⟩ = some (.int .i64 x) ∧ V.cell? ⟨b, o + i * 2 + 1, none⟩ = some (.int .i64 y) ∧ b ≠ X ∧ Below w.heap.size w V) WZ := by
          refine ⟨SF.out.x, ?_, ?_, hHeld.2.2.2.1, SF.out.bel⟩
          · rw [hWZ, World.cell?_setCell_other _ _ _ _ (by intro h2; have := congrArg Addr.block h2; simp at this; exact hHeld.2.2.2.1 this.symm)]; exact hHeld.2.1
          · rw [hWZ, World.cell?_setCell_other _ _ _ _ (by intro h2; have := congrArg Addr.block h2; simp at this; exact hHeld.2.2.2.1 this.symm)]; exact hHeld.2.2.1
        have HWZ := Lib.hid hWZ
        have HL2 := Lib.hid hL2
        obtain ⟨M2, hM2⟩ : ∃ M2, M2 = L2.length := ⟨_, rfl⟩
        rw [← hM2] at HWZ ⊢
        clear hWZ hL2 hM2
        refine take_call (i := 10) rfl (by kernel_rfl) (fun K2 hK => ?_)
        go_simp
        rw [← HWZ.out]
        refine hK.out _ _ hq (fun hHeld2 => ?_)
        clear hK hHeld hHeld2 HWZ z0 z1 z2 z3 z4 z5 z6 p0 p1 p2 p3 p4 p5 p6 hl2 hq HPU HZR
        refine wpAnyH_done (by kernel_rfl) ?_ _
        go_wp2_with fail
        go_roundw
        case rel => exact ⟨i + 1, a6, k6, by omega, by go_num, by rw [HE2.out, ← HL2.out]; exact SF⟩
        case measure => simp [intOf]; omega
      · obtain ⟨Z1, hZ1⟩ : ∃ Z1, Z1 = Z.alloc (.cells #[.int .i64 x, .int .i64 y] 37) := ⟨_, rfl⟩
        have hb : Below Z.heap.size Z Z1 := by rw [hZ1]; exact nbel_alloc _ _
        obtain ⟨gx, hgx⟩ : ∃ gx, gx = Z.heap.size := ⟨_, rfl⟩
        have HM1 : Hid (IsIn (some ⟨gx, 0, none⟩) (([(x, y)] : List Ln.Nt).length * 2) (Ln.fl [(x, y)]) Z1) := by show IsIn _ _ _ _; rw [hZ1, hgx]; exact one_in Z 37 x y
        have SZ1 := Lib.hid (SZ.out.below hb)
        have hq : (fun V => V.rowIs w.heap.size 28 7 (rowN (stL s (some ⟨b, o, none⟩) k)) ∧ V.cell? ⟨b, o + i * 2, none⟩ = some (.int .i64 x) ∧ V.cell? ⟨b, o + i * 2 + 1, none⟩ = some (.int .i64 y) ∧ b ≠ X ∧ Below w.heap.size w V) Z1 := ⟨nrow_below hHeld.1 hb, (hb.cell (World.block_lt_of_cell? _ _ hHeld.2.1)).trans hHeld.2.1, (hb.cell (World.block_lt_of_cell? _ _ hHeld.2.2.1)).trans hHeld.2.2.1, hHeld.2.2.2.1, hHeld.2.2.2.2.trans (hb.mono hHeld.2.2.2.2.size)⟩
        go_simp
        rw [← hZ1, ← hgx]
        refine hK.out _ _ hq (fun hHeld2 => ?_)
        clear hK hHeld hb hq hZ1 hgx
        have hHeld := hHeld2
        clear hHeld2
        refine take_call (i := 1) rfl (by kernel_rfl) (fun K2 hK => ?_)
        obtain ⟨⟨z0, z1, z2, z3, z4, z5, z6⟩, _⟩ := rowN7 SZ1.out.z
        rw [← HM.out] at z5
        go_simp
        refine hK.out _ _ hHeld (fun hHeld2 => ?_)
        clear hK hHeld z0 z1 z2 z3 z4 z5 z6
        have hHeld := hHeld2
        clear hHeld2
        refine take_call (i := 8) rfl (by kernel_rfl) (fun K2 hK => ?_)
        have hsz := SZ1.out.x.lt
        have hsy := SZ1.out.y.lt
        refine step_append_ns rfl (.tmp 31) (.tmp 37) 26 rfl 37 i0 (.agg #[.int .i64 0, .int .i64 0]) 16 Tryz.underlying26 hi hz0 hz1 hz2 rfl (w.heap.size + 2) (.slice a5 M k5) L [(x, y)] rfl (by rw [HM.out]; exact SZ1.out.own) (some ⟨gx, 0, none⟩) 1 rfl HM1.out (by unfold maxLen; have := HLL.out; simp; omega) (by have := HLL.out; simp; omega) (by omega) ?_
        intro v6 Z2 hown hgrow
        obtain ⟨L2, hL2⟩ : ∃ L2, L2 = L ++ [(x, y)] := ⟨_, rfl⟩
        have hown2 : Z2.ownsRow (w.heap.size + 2) 37 2 v6 L2.length (nvs L2) := by rw [hL2]; exact hown
        rw [HM.out] at hgrow
        obtain ⟨a6, k6, rfl, _, _⟩ := own_ns hown2
        obtain ⟨hzr, hxr, hbl, hpush⟩ := SZ1.out.push HA0.out hXs hgrow hown2
        have HPU := Lib.hid hpush
        have hcc : ∀ c v, Z1.cell? ⟨b, c, none⟩ = some v → Z2.cell? ⟨b, c, none⟩ = some v := fun c v hv => by
          have hlb := BLT.out
          have e1 := SZ1.out.bel.block b hlb
          have e2 := hbl.block b hlb
          rw [World.cell?_of_block (a := ⟨b, c, none⟩) (e2.trans e1.symm)]
          exact hv
        have hq : (fun V => V.rowIs w.heap.size 28 7 (rowN (stL s (some ⟨b, o, none⟩) k)) ∧ V.cell? ⟨b, o + i * 2, none⟩ = some (.int .i64 x) ∧ V.cell? ⟨b, o + i * 2 + 1, none⟩ = some (.int .i64 y) ∧ b ≠ X ∧ Below w.heap.size w V) Z2 := ⟨hxr, hcc _ _ hHeld.2.1, hcc _ _ hHeld.2.2.1, hHeld.2.2.2.1, hbl⟩
        have HZR := Lib.hid hzr
        refine hK.out _ _ hq (fun hHeld2 => ?_)
        clear hK hHeld hq hown hown2 hgrow hxr hbl hpush hcc SZ SZ1 HM1 hsz hsy hzr
        have hHeld := hHeld2
        clear hHeld2
        simp only [Act.put, List.setIfInBounds_toArray, List.set_cons_zero, List.set_cons_succ]
        refine take_do (i := 9) (v := (.pointer (some ⟨X, 5, none⟩))) rfl (by kernel_rfl) (by kernel_rfl) (by kernel_rfl) (fun _ _ _ h => h) (by rfl) ?_ (by assumption) ?_
        · intro w hSw
          go_simp
        simp only [Act.put, List.setIfInBounds_toArray, List.set_cons_zero, List.set_cons_succ]
        obtain ⟨⟨z0, z1, z2, z3, z4, z5, z6⟩, p0, p1, p2, p3, p4, p5, p6⟩ := rowN7 HZR.out
        have hl2 := HZR.out.lt
        obtain ⟨WZ, hWZ⟩ : ∃ WZ, WZ = Z2.setCell ⟨X, 5, none⟩ (.slice a6 L2.length k6) := ⟨_, rfl⟩
        have SF : Hid (HdI s (some ⟨b, o, none⟩) k X a6 k6 L2 w WZ) := by show HdI _ _ _ _ _ _ _ _ _; rw [hWZ]; exact HPU.out
        have hq : (fun V => V.rowIs w.heap.size 28 7 (rowN (stL s (some ⟨b, o, none⟩) k)) ∧ V.cell? ⟨b, o + i * 2, none⟩ = some (.int .i64 x) ∧ V.cell? ⟨b, o + i * 2 + 1, none⟩ = some (.int .i64 y) ∧ b ≠ X ∧ Below w.heap.size w V) WZ := by
          refine ⟨SF.out.x, ?_, ?_, hHeld.2.2.2.1, SF.out.bel⟩
          · rw [hWZ, World.cell?_setCell_other _ _ _ _ (by intro h2; have := congrArg Addr.block h2; simp at this; exact hHeld.2.2.2.1 this.symm)]; exact hHeld.2.1
          · rw [hWZ, World.cell?_setCell_other _ _ _ _ (by intro h2; have := congrArg Addr.block h2; simp at this; exact hHeld.2.2.2.1 this.symm)]; exact hHeld.2.2.1
        have HWZ := Lib.hid hWZ
        have HL2 := Lib.hid hL2
        obtain ⟨M2, hM2⟩ : ∃ M2, M2 = L2.length := ⟨_, rfl⟩
        rw [← hM2] at HWZ ⊢
        clear hWZ hL2 hM2
        refine take_call (i := 10) rfl (by kernel_rfl) (fun K2 hK => ?_)
        go_simp
        rw [← HWZ.out]
        refine hK.out _ _ hq (fun hHeld2 => ?_)
        clear hK hHeld hHeld2 HWZ z0 z1 z2 z3 z4 z5 z6 p0 p1 p2 p3 p4 p5 p6 hl2 hq HPU HZR
        refine wpAnyH_done (by kernel_rfl) ?_ _
        go_wp2_with fail
        go_roundw
        case rel => exact ⟨i + 1, a6, k6, by omega, by go_num, by rw [HE2.out, ← HL2.out]; exact SF⟩
        case measure => simp [intOf]; omega
    · obtain rfl : i = N := by omega
      have HLE : Hid (L = Ln.left q s.wait) := by show _ = _; rw [HL.out, HNN.out, List.take_length]
      obtain ⟨a5', k5', e5, hq5, _⟩ := own_ns hS.out.own
      cases e5
      have HQ5 := Lib.hid hq5
      have HBV := Lib.hid hS.out.bel
      have HYV := Lib.hid hS.out.y
      clear hq5
      have zr := Lib.hid (lput7 HYV.out rfl (.int .i64 s.unit) (.int .i64 s.band) (.bool s.seen) (.int .i64 s.last) (.int .i64 s.next) (.slice a5 M k5) (.int .i64 s.drops))
      have zb := Lib.hid (lbel7 HBV.out (g := w.heap.size + 1) (by omega) (.int .i64 s.unit) (.int .i64 s.band) (.bool s.seen) (.int .i64 s.last) (.int .i64 s.next) (.slice a5 M k5) (.int .i64 s.drops))
      have zq : Hid (NqOwn 37 w.heap.size L.length a5 (Ln.fl L) ((((((((wr.setCell ⟨w.heap.size + 1, 0, none⟩ (.int .i64 s.unit)).setCell ⟨w.heap.size + 1, 1, none⟩ (.int .i64 s.band)).setCell ⟨w.heap.size + 1, 2, none⟩ (.bool s.seen)).setCell ⟨w.heap.size + 1, 3, none⟩ (.int .i64 s.last)).setCell ⟨w.heap.size + 1, 4, none⟩ (.int .i64 s.next)).setCell ⟨w.heap.size + 1, 5, none⟩ (.slice a5 M k5)).setCell ⟨w.heap.size + 1, 6, none⟩ (.int .i64 s.drops)))) := (HQ5.out.same (fun k hk _ => lblk7 (by omega) _ _ _ _ _ _ _)).low (by omega)
      go_wp2_with fail
      refine bodyPost_ret (v := stV ⟨s.unit, s.band, s.seen, s.last, s.next, L, s.drops⟩ a5 k5) ?_ rfl ⟨by rw [HE.out, ← HLE.out]; exact ⟨a5, k5, rfl, zq.out⟩, zb.out⟩
      obtain ⟨⟨u0, u1, u2, u3, u4, u5, u6⟩, _⟩ := rowN7 zr.out
      simp only [results, Tryz.results23]
      simp only [stV, ← HM.out]
      simp [go_sem, u0, u1, u2, u3, u4, u5, u6]
end Go.Proofs.YtighcbpcclifoaaGreatDoor
namespace Go.Proofs.YtighcbpcclifoaaGreatDoor
open Go Go.RowKit

section
variable {P : Program} {ops : Array Oper} {Q : Exit → Act → World → Prop} {md : Region.Mode} {S : World → Prop} {st : Nat}
/-- Whatever order is picked; the condition holds behind every operation but the last one. -/
def wpL (P : Program) (md : Region.Mode) (ops : Array Oper) (Q : Exit → Act → World → Prop) (S : World → Prop) (st : Nat) : Nat → Array Bool → Act → World → Prop
  | 0, listed, a, w => Region.ready md ops listed = [] ∧ Q .normal a w
  | fuel + 1, listed, a, w => (Region.ready md ops listed = [] → Q .normal a w) ∧
      ∀ i ∈ Region.ready md ops listed, wpOp P ops Q i (fun a' w' => (i ≠ st → S w') ∧ wpL P md ops Q S st fuel (listed.setIfInBounds i true) a' w') a w
theorem any_of_L : ∀ (fuel : Nat) (listed : Array Bool) (a : Act) (w : World), wpL P md ops Q S st fuel listed a w → wpAny P md ops Q fuel listed a w
  | 0, _, _, _, h => h
  | fuel + 1, _, _, _, h => ⟨h.1, fun i hi => wpOp_mono (fun a' w' k => any_of_L fuel _ a' w' k.2) (h.2 i hi)⟩
/-- The last one waits for number i. -/
def lastWaits (md : Region.Mode) (ops : Array Oper) (st i : Nat) : Bool := match ops[st]? with
  | none => false
  | some o => o.after.any (fun e => Region.binds md e && e.on == i)
theorem lastWaits_spec {i : Nat} (h : lastWaits md ops st i = true) : ∃ o, ops[st]? = some o ∧ ∃ e ∈ o.after, Region.binds md e = true ∧ e.on = i := by
  unfold lastWaits at h
  cases ho : ops[st]? with
  | none => rw [ho] at h; cases h
  | some o =>
    rw [ho] at h
    simp only [Array.any_eq_true'] at h
    obtain ⟨e, he, h2⟩ := h
    simp only [Bool.and_eq_true, beq_iff_eq] at h2
    exact ⟨o, rfl, e, he, h2.1, h2.2⟩
theorem L_first {i : Nat} {oi : Oper} {v : Value} (hi : ops[i]? = some oi) (hsel : ∀ (j : Nat) (o : Oper) cs b, ops[j]? = some o → o.op ≠ .select cs b)
    (hQ : ∀ c a w, Q (.panic c) (a.put oi.dst v) w → Q (.panic c) a w) (hw : lastWaits md ops st i = true) (hne : i ≠ st) :
    ∀ (fuel : Nat) (listed : Array Bool) (a : Act) (w : World),
      (∀ j oj, ops[j]? = some oj → j ≠ i → listed.getD j true = false → (∀ e ∈ oj.after, Region.binds md e = true → e.on ≠ i) → oi.apart ops oj = true) →
      i ∈ Region.ready md ops listed → YieldsIf P ops S oi v a → S w →
      wpL P md ops Q S st fuel (listed.setIfInBounds i true) (a.put oi.dst v) w → wpL P md ops Q S st (fuel + 1) listed a w := by
  intro fuel
  induction fuel with
  | zero =>
    intro listed a w _ hr hy hS H
    refine ⟨fun h => (by rw [h] at hr; cases hr), fun j hj => ?_⟩
    by_cases hji : j = i
    · subst hji; exact hy.wpOp hi hS ⟨fun _ => hS, H⟩
    · have k := ready_mono hj hji
      rw [H.1] at k
      cases k
  | succ fuel ih =>
    intro listed a w hfree hr hy hS H
    refine ⟨fun h => (by rw [h] at hr; cases hr), fun j hj => ?_⟩
    by_cases hji : j = i
    · subst hji; exact hy.wpOp hi hS ⟨fun _ => hS, H⟩
    have h1 := H.2 j (ready_mono hj hji)
    obtain ⟨hjun, oj, hoj, hall⟩ := mem_ready.1 hj
    have h0 := (mem_ready.1 hr).1
    have late : ∀ e ∈ oj.after, Region.binds md e = true → e.on ≠ i := fun e he hb heq => by
      have k := hall e he hb
      rw [heq] at k
      rcases Nat.lt_or_ge i listed.size with h' | h'
      · simp [h'] at h0 k; rw [h0] at k; cases k
      · simp [Array.getElem?_eq_none h'] at k
    have hjs : j ≠ st := fun e => by
      obtain ⟨o, ho, ee, h2, h3, h4⟩ := lastWaits_spec hw
      rw [← e, hoj] at ho
      cases ho
      exact late ee h2 h3 h4
    have h2 := wpOp_putIf hoj (hfree j oj hoj hji hjun late) (fun cs b => hsel i oi cs b hi) (fun cs b => hsel j oj cs b hoj) hQ hy h1
    have hfree' : ∀ k ok, ops[k]? = some ok → k ≠ i → (listed.setIfInBounds j true).getD k true = false →
        (∀ e ∈ ok.after, Region.binds md e = true → e.on ≠ i) → oi.apart ops ok = true := fun k ok hk hki hun hno => by
      refine hfree k ok hk hki ?_ hno
      by_cases hjk : j = k
      · subst hjk; exact hjun
      · rw [getD_set_ne true hjk] at hun; exact hun
    refine wpOp_mono (fun a' w' h3 => ⟨fun _ => h3.2.1 hjs, ih (listed.setIfInBounds j true) a' w' hfree' (ready_mono hr (Ne.symm hji)) h3.1 (h3.2.1 hjs) ?_⟩) h2
    rw [Array.setIfInBounds_comm _ _ hji]
    exact h3.2.2
theorem takeL_do {i : Nat} {oi : Oper} {rest : List Oper} {v : Value} {fuel : Nat} {listed : Array Bool} {a : Act} {w : World} (hi : ops.toList.drop i = oi :: rest)
    (hs : Region.noSelect ops = true) (hf : Region.free md ops listed i = true) (hr : (Region.ready md ops listed).contains i = true) (hl : (lastWaits md ops st i && (i != st)) = true)
    (hQ : ∀ c a w, Q (.panic c) (a.put oi.dst v) w → Q (.panic c) a w) (hw : Region.wanted oi (yielded ops a.tmps) = true) (hy : ∀ w, S w → (execOp a.eval oi).run P w = .ok (.value v) w) (hS : S w)
    (h : wpL P md ops Q S st fuel (listed.setIfInBounds i true) (a.put oi.dst v) w) : wpL P md ops Q S st (fuel + 1) listed a w := by
  simp only [Bool.and_eq_true, bne_iff_ne, ne_eq] at hl
  exact L_first (at_drop hi) (Region.noSelect_spec hs) hQ hl.1 hl.2 fuel listed a w (Region.free_spec (at_drop hi) hf) (by simpa using hr) (Or.inl ⟨hw, hy⟩) hS h
/-- Each of these may come up. -/
def AllL (P : Program) (md : Region.Mode) (ops : Array Oper) (Q : Exit → Act → World → Prop) (S : World → Prop) (st : Nat) (fuel : Nat) (listed : Array Bool) (a : Act) (w : World) (rs : List Nat) : Prop :=
  ∀ i ∈ rs, wpOp P ops Q i (fun a' w' => (i ≠ st → S w') ∧ wpL P md ops Q S st fuel (listed.setIfInBounds i true) a' w') a w
theorem AllL.nil {fuel : Nat} {listed : Array Bool} {a : Act} {w : World} : AllL P md ops Q S st fuel listed a w [] := fun _ h => by cases h
theorem AllL.cons {fuel : Nat} {listed : Array Bool} {a : Act} {w : World} {i : Nat} {oi : Oper} {rest : List Oper} {rs : List Nat} (hi : ops.toList.drop i = oi :: rest)
    (h : ∀ K' : Act → World → Prop, Shut (∀ a w, S w → (S w → wpL P md ops Q S st fuel (listed.setIfInBounds i true) a w) → K' a w) → if Region.wanted oi (yielded ops a.tmps) = true then Oper.wp P oi a w K' Q else K' (a.put oi.dst undef) w)
    (hs : AllL P md ops Q S st fuel listed a w rs) : AllL P md ops Q S st fuel listed a w (i :: rs) := fun j hj => by
  rcases List.mem_cons.1 hj with rfl | hj
  · exact wpOp_step (at_drop hi) (fun K' hK => h K' (fun a w hS hW => hK a w ⟨fun _ => hS, hW hS⟩))
  · exact hs j hj
theorem L_ready {rs : List Nat} {fuel : Nat} {listed : Array Bool} {a : Act} {w : World} (hr : Region.ready md ops listed = rs) (hne : rs ≠ [])
    (h : AllL P md ops Q S st fuel listed a w rs) : wpL P md ops Q S st (fuel + 1) listed a w := ⟨fun h0 => absurd (hr ▸ h0) hne, hr ▸ h⟩
theorem takeL_call {i : Nat} {oi : Oper} {rest : List Oper} {fuel : Nat} {listed : Array Bool} {a : Act} {w : World} (hi : ops.toList.drop i = oi :: rest) (hr : Region.ready md ops listed = [i])
    (h : ∀ K' : Act → World → Prop, Shut (∀ a w, S w → (S w → wpL P md ops Q S st fuel (listed.setIfInBounds i true) a w) → K' a w) → if Region.wanted oi (yielded ops a.tmps) = true then Oper.wp P oi a w K' Q else K' (a.put oi.dst undef) w) :
    wpL P md ops Q S st (fuel + 1) listed a w := L_ready hr (by simp) (AllL.cons hi h AllL.nil)
/-- The last one. -/
theorem takeL_last {oi : Oper} {rest : List Oper} {fuel : Nat} {listed : Array Bool} {a : Act} {w : World} (hi : ops.toList.drop st = oi :: rest) (hr : Region.ready md ops listed = [st]) (hd : Region.ready md ops (listed.setIfInBounds st true) = [])
    (h : ∀ K' : Act → World → Prop, Shut (∀ a w, Q .normal a w → K' a w) → if Region.wanted oi (yielded ops a.tmps) = true then Oper.wp P oi a w K' Q else K' (a.put oi.dst undef) w) :
    wpL P md ops Q S st (fuel + 1) listed a w := by
  refine ⟨fun h0 => (by rw [hr] at h0; cases h0), fun j hj => ?_⟩
  rw [hr] at hj
  obtain rfl : j = st := by simpa using hj
  refine wpOp_step (at_drop hi) (fun K' hK => h K' (fun a w hW => hK a w ⟨fun h => absurd rfl h, ?_⟩))
  cases fuel with
  | zero => exact ⟨hd, hW⟩
  | succ fuel => exact ⟨fun _ => hW, by rw [hd]; simp⟩
theorem region_L (S : World → Prop) (st : Nat) {id : Nat} {a : Act} {w : World} (hm : P.follows .mixedOrders = true) (hS : S w.drew)
    (h : S w.drew → wpL P .any ops Q S st ops.size (Array.replicate ops.size false) a w.drew) : (Code.region id ops true).wp P Q a w :=
  wp_region_any hm (any_of_L _ _ _ _ (h hS))
end
end Go.Proofs.YtighcbpcclifoaaGreatDoor
namespace Go.Proofs.YtighcbpcclifoaaGreatDoor
open Go.RowKit Go.Deep

structure SpS (o sb mb : Nat) (S : Ln.S) (M : Ln.M) (a : Option Addr) (k : Nat) (b : Option Addr) (l : Nat) (w W : World) : Prop where
  ro : W.rowIs o 32 11 (rowN loZ)
  rs : W.rowIs sb 28 7 (rowN (stL S a k))
  rm : W.rowIs mb 30 3 (rowN (maL M b l))
  ts : NqOwn 37 (mb + 1) S.wait.length a (Ln.fl S.wait) W
  tm : NqOwn 37 (mb + 1) M.notes.length b (Ln.fl M.notes) W
  dj : ∀ g o g' o', S.wait.length ≠ 0 → M.notes.length ≠ 0 → a = some ⟨g, o, none⟩ → b = some ⟨g', o', none⟩ → g ≠ g'
  num : w.heap.size ≤ o ∧ o < sb ∧ sb < mb
  bel : Below w.heap.size w W
section
variable {o sb mb : Nat} {S S' : Ln.S} {M M' : Ln.M} {a a' : Option Addr} {k k' : Nat} {b b' : Option Addr} {l l' : Nat} {w W W' : World}
theorem SpS.below (h : SpS o sb mb S M a k b l w W) (hb : Below W.heap.size W W') : SpS o sb mb S M a k b l w W' :=
  ⟨nrow_below h.ro hb, nrow_below h.rs hb, nrow_below h.rm hb, h.ts.below hb, h.tm.below hb, h.dj, h.num, h.bel.trans (hb.mono h.bel.size)⟩
theorem SpS.setS (h : SpS o sb mb S M a k b l w W) (hb : Below W.heap.size W W') (hq : NqOwn 37 W.heap.size S'.wait.length a' (Ln.fl S'.wait) W') : SpS o sb mb S' M a' k' b l w (((((((W'.setCell ⟨sb, 0, none⟩ (.int .i64 S'.unit)).setCell ⟨sb, 1, none⟩ (.int .i64 S'.band)).setCell ⟨sb, 2, none⟩ (.bool S'.seen)).setCell ⟨sb, 3, none⟩ (.int .i64 S'.last)).setCell ⟨sb, 4, none⟩ (.int .i64 S'.next)).setCell ⟨sb, 5, none⟩ (.slice a' S'.wait.length k')).setCell ⟨sb, 6, none⟩ (.int .i64 S'.drops)) := by
  obtain ⟨o1, o2, o3⟩ := h.num
  have hl := h.rm.lt
  have h' := h.below hb
  have hO := (((((((LnOnly.set (p := sb) W' 0 (.int .i64 S'.unit)).trans (LnOnly.set _ 1 (.int .i64 S'.band))).trans (LnOnly.set _ 2 (.bool S'.seen))).trans (LnOnly.set _ 3 (.int .i64 S'.last))).trans (LnOnly.set _ 4 (.int .i64 S'.next))).trans (LnOnly.set _ 5 (.slice a' S'.wait.length k'))).trans (LnOnly.set _ 6 (.int .i64 S'.drops)))
  refine ⟨hO.row (by omega) h'.ro, lput7 h'.rs rfl (.int .i64 S'.unit) (.int .i64 S'.band) (.bool S'.seen) (.int .i64 S'.last) (.int .i64 S'.next) (.slice a' S'.wait.length k') (.int .i64 S'.drops), hO.row (by omega) h'.rm, hO.own (by omega) (hq.low (by omega)), hO.own (by omega) h'.tm, fun g oo g' o' e1 e2 e3 e4 => ?_, h.num, hO.bel h'.bel (by omega) h'.bel.size⟩
  have hlt := h.tm.lt g' o' e2 e4
  rcases hq with e | ⟨g2, oo2, e5, e6, _⟩
  · exact absurd e e1
  · rw [e5] at e3
    cases e3
    omega
theorem SpS.setM (h : SpS o sb mb S M a k b l w W) (hb : Below W.heap.size W W') (hq : NqOwn 37 W.heap.size M'.notes.length b' (Ln.fl M'.notes) W') : SpS o sb mb S M' a k b' l' w (((W'.setCell ⟨mb, 0, none⟩ (.int .i64 M'.seq)).setCell ⟨mb, 1, none⟩ (.slice b' M'.notes.length l')).setCell ⟨mb, 2, none⟩ (.int .i64 M'.gaps)) := by
  obtain ⟨o1, o2, o3⟩ := h.num
  have hl := h.rm.lt
  have h' := h.below hb
  have hO := (((LnOnly.set (p := mb) W' 0 (.int .i64 M'.seq)).trans (LnOnly.set _ 1 (.slice b' M'.notes.length l'))).trans (LnOnly.set _ 2 (.int .i64 M'.gaps)))
  refine ⟨hO.row (by omega) h'.ro, hO.row (by omega) h'.rs, lput3 h'.rm rfl (.int .i64 M'.seq) (.slice b' M'.notes.length l') (.int .i64 M'.gaps), hO.own (by omega) h'.ts, hO.own (by omega) (hq.low (by omega)), fun g oo g' o' e1 e2 e3 e4 => ?_, h.num, hO.bel h'.bel (by omega) h'.bel.size⟩
  have hlt := h.ts.lt g oo e1 e3
  rcases hq with e | ⟨g2, oo2, e5, e6, _⟩
  · exact absurd e e2
  · rw [e5] at e4
    cases e4
    omega
end
set_option maxRecDepth 100000 in
set_option maxHeartbeats 16000000 in
theorem specRun_any (u b : Int) (ea : Option Addr) (n ec : Nat) (f : Nat → Int) (w : World) (h : IsIn ea (n * 2) f w) (hnm : n ≤ 1048576) :
    Calls Tryz.prog 7 #[.int .i64 u, .int .i64 b, .slice ea n ec] w fun e W' => LoEnd (Ln.lst u b f n) (Ln.lma u b f n) (Ln.lcode u b f n) w.heap.size e W' ∧ Below w.heap.size w W' := by
  obtain ⟨W, hW⟩ : ∃ W, W = w.alloc (.cells #[.int .i64 0, .int .i64 0, .bool false, .int .i64 0, .int .i64 0, .slice none 0 0, .int .i64 0, .int .i64 0, .slice none 0 0, .int .i64 0, .int .i64 0] 32) := ⟨_, rfl⟩
  have HB : Hid (Below w.heap.size w W) := by show Below _ _ _; rw [hW]; exact nbel_alloc _ _
  have HY : Hid (W.rowIs w.heap.size 32 11 (rowN loZ)) := by show W.rowIs _ _ _ _; rw [hW]; exact rowN_alloc w loZ _
  have H := Lib.hid h
  have HW := Lib.hid hW
  clear h hW
  go_enter Tryz.func7, Tryz.ntmps7
  by_cases k0 : (200 : Int) < (n : Int)
  · have HE := Lib.hid (Ln.lout_big (u := u) (b := b) (f := f) (n := n) (by omega))
    have zr := Lib.hid (rowN_alloc w [.int .i64 0, .int .i64 0, .bool false, .int .i64 0, .int .i64 0, .slice none 0 0, .int .i64 0, .int .i64 0, .slice none 0 0, .int .i64 0, .int .i64 2] 32)
    have zb := Lib.hid (nbel_alloc w (.cells #[.int .i64 0, .int .i64 0, .bool false, .int .i64 0, .int .i64 0, .slice none 0 0, .int .i64 0, .int .i64 0, .slice none 0 0, .int .i64 0, .int .i64 2] 32))
    go_wp2_with fail
    refine bodyPost_ret (v := loV Ln.S.zero Ln.M.new none 0 none 0 2) ?_ rfl ⟨by rw [HE.out.1, HE.out.2.1, HE.out.2.2]; exact LoEnd.zero 2 _ _, zb.out⟩
    obtain ⟨⟨t0, t1, t2, t3, t4, t5, t6, t7, t8, t9, t10⟩, _⟩ := rowN11 zr.out
    simp only [results, Tryz.results7]
    simp [go_sem, t0, t1, t2, t3, t4, t5, t6, t7, t8, t9, t10, loV, Ln.S.zero, Ln.M.new]
  have hn : n ≤ 200 := by omega
  by_cases k1 : u < 0
  · have HE := Lib.hid (Ln.lout_no (u := u) (b := b) (f := f) hn (fun h => by obtain ⟨⟨⟨_, _⟩, _, _⟩, _⟩ := h; omega))
    have zr := Lib.hid (rowN_alloc w [.int .i64 0, .int .i64 0, .bool false, .int .i64 0, .int .i64 0, .slice none 0 0, .int .i64 0, .int .i64 0, .slice none 0 0, .int .i64 0, .int .i64 1] 32)
    have zb := Lib.hid (nbel_alloc w (.cells #[.int .i64 0, .int .i64 0, .bool false, .int .i64 0, .int .i64 0, .slice none 0 0, .int .i64 0, .int .i64 0, .slice none 0 0, .int .i64 0, .int .i64 1] 32))
    go_wp2_with fail
    refine bodyPost_ret (v := loV Ln.S.zero Ln.M.new none 0 none 0 1) ?_ rfl ⟨by rw [HE.out.1, HE.out.2.1, HE.out.2.2]; exact LoEnd.zero 1 _ _, zb.out⟩
    obtain ⟨⟨t0, t1, t2, t3, t4, t5, t6, t7, t8, t9, t10⟩, _⟩ := rowN11 zr.out
    simp only [results, Tryz.results7]
    simp [go_sem, t0, t1, t2, t3, t4, t5, t6, t7, t8, t9, t10, loV, Ln.S.zero, Ln.M.new]
  by_cases k2 : 250 < u
  · have HE := Lib.hid (Ln.lout_no (u := u) (b := b) (f := f) hn (fun h => by obtain ⟨⟨⟨_, _⟩, _, _⟩, _⟩ := h; omega))
    have zr := Lib.hid (rowN_alloc w [.int .i64 0, .int .i64 0, .bool false, .int .i64 0, .int .i64 0, .slice none 0 0, .int .i64 0, .int .i64 0, .slice none 0 0, .int .i64 0, .int .i64 1] 32)
    have zb := Lib.hid (nbel_alloc w (.cells #[.int .i64 0, .int .i64 0, .bool false, .int .i64 0, .int .i64 0, .slice none 0 0, .int .i64 0, .int .i64 0, .slice none 0 0, .int .i64 0, .int .i64 1] 32))
    go_wp2_with fail
    refine bodyPost_ret (v := loV Ln.S.zero Ln.M.new none 0 none 0 1) ?_ rfl ⟨by rw [HE.out.1, HE.out.2.1, HE.out.2.2]; exact LoEnd.zero 1 _ _, zb.out⟩
    obtain ⟨⟨t0, t1, t2, t3, t4, t5, t6, t7, t8, t9, t10⟩, _⟩ := rowN11 zr.out
    simp only [results, Tryz.results7]
    simp [go_sem, t0, t1, t2, t3, t4, t5, t6, t7, t8, t9, t10, loV, Ln.S.zero, Ln.M.new]
  by_cases k3 : b < 0
  · have HE := Lib.hid (Ln.lout_no (u := u) (b := b) (f := f) hn (fun h => by obtain ⟨⟨⟨_, _⟩, _, _⟩, _⟩ := h; omega))
    have zr := Lib.hid (rowN_alloc w [.int .i64 0, .int .i64 0, .bool false, .int .i64 0, .int .i64 0, .slice none 0 0, .int .i64 0, .int .i64 0, .slice none 0 0, .int .i64 0, .int .i64 1] 32)
    have zb := Lib.hid (nbel_alloc w (.cells #[.int .i64 0, .int .i64 0, .bool false, .int .i64 0, .int .i64 0, .slice none 0 0, .int .i64 0, .int .i64 0, .slice none 0 0, .int .i64 0, .int .i64 1] 32))
    go_wp2_with fail
    refine bodyPost_ret (v := loV Ln.S.zero Ln.M.new none 0 none 0 1) ?_ rfl ⟨by rw [HE.out.1, HE.out.2.1, HE.out.2.2]; exact LoEnd.zero 1 _ _, zb.out⟩
    obtain ⟨⟨t0, t1, t2, t3, t4, t5, t6, t7, t8, t9, t10⟩, _⟩ := rowN11 zr.out
    simp only [results, Tryz.results7]
    simp [go_sem, t0, t1, t2, t3, t4, t5, t6, t7, t8, t9, t10, loV, Ln.S.zero, Ln.M.new]
  by_cases k4 : 1000000 < b
  · have HE := Lib.hid (Ln.lout_no (u := u) (b := b) (f := f) hn (fun h => by obtain ⟨⟨⟨_, _⟩, _, _⟩, _⟩ := h; omega))
    have zr := Lib.hid (rowN_alloc w [.int .i64 0, .int .i64 0, .bool false, .int .i64 0, .int .i64 0, .slice none 0 0, .int .i64 0, .int .i64 0, .slice none 0 0, .int .i64 0, .int .i64 1] 32)
    have zb := Lib.hid (nbel_alloc w (.cells #[.int .i64 0, .int .i64 0, .bool false, .int .i64 0, .int .i64 0, .slice none 0 0, .int .i64 0, .int .i64 0, .slice none 0 0, .int .i64 0, .int .i64 1] 32))
    go_wp2_with fail
    refine bodyPost_ret (v := loV Ln.S.zero Ln.M.new none 0 none 0 1) ?_ rfl ⟨by rw [HE.out.1, HE.out.2.1, HE.out.2.2]; exact LoEnd.zero 1 _ _, zb.out⟩
    obtain ⟨⟨t0, t1, t2, t3, t4, t5, t6, t7, t8, t9, t10⟩, _⟩ := rowN11 zr.out
    simp only [results, Tryz.results7]
    simp [go_sem, t0, t1, t2, t3, t4, t5, t6, t7, t8, t9, t10, loV, Ln.S.zero, Ln.M.new]
  have HF : Hid (Ln.Fit u b) := ⟨⟨by omega, by omega⟩, by omega, by omega⟩
  go_wp2_with fail
  rw [← HW.out]
  clear HW k1 k2 k3 k4
  go_loopw [7, 8] (fun iv _ wr => ∃ (i : Nat), i ≤ n ∧ iv = .int .i64 i ∧ Hid (Ln.EvsOk f i) ∧ Hid (Below w.heap.size w wr) ∧ Hid (wr.rowIs w.heap.size 32 11 (rowN loZ))) (fun iv _ _ => n - (intOf iv).toNat)
  case atStart => exact ⟨0, Nat.zero_le _, rfl, Ln.EvsOk.zero f, HB, HY⟩
  case round =>
    obtain ⟨i, hin, rfl, hok, hB, hY⟩ := hrel
    by_cases hlt : i < n
    · have hltz : (i : Int) < (n : Int) := by omega
      obtain ⟨g, o, hea, c0, c1⟩ := (H.out.below hB.out).at2 hlt
      obtain ⟨x, hx⟩ : ∃ x, x = f (i * 2) := ⟨_, rfl⟩
      obtain ⟨y, hy⟩ : ∃ y, y = f (i * 2 + 1) := ⟨_, rfl⟩
      have HX := Lib.hid hx
      have HYV := Lib.hid hy
      rw [← hx] at c0
      rw [← hy] at c1
      clear hx hy
      have HEA := Lib.hid hea
      subst hea
      obtain ⟨V1, hV1⟩ : ∃ V1, V1 = wr.alloc (.cells #[.int .i64 x, .int .i64 y] 35) := ⟨_, rfl⟩
      have X1 : Hid (V1.rowIs wr.heap.size 35 2 (rowN [.int .i64 x, .int .i64 y])) := by show V1.rowIs _ _ _ _; rw [hV1]; exact rowN_alloc wr [.int .i64 x, .int .i64 y] _
      have B1 : Hid (Below w.heap.size w V1) := by show Below _ _ _; rw [hV1]; exact hB.out.trans ((nbel_alloc _ _).mono hB.out.size)
      have Y1 : Hid (V1.rowIs w.heap.size 32 11 (rowN loZ)) := by show V1.rowIs _ _ _ _; rw [hV1]; exact nrow_below hY.out (nbel_alloc _ _)
      obtain ⟨⟨x0, x1⟩, _⟩ := rowN2 X1.out
      have HV1 := Lib.hid hV1
      rw [hV1] at x0 x1
      have hlw : w.heap.size < wr.heap.size := hY.out.lt
      have HEN : Hid (¬ Ln.EvOk x y → Ln.lcode u b f n = 1 ∧ Ln.lst u b f n = Ln.S.zero ∧ Ln.lma u b f n = Ln.M.new) := fun h1 => Ln.lout_no hn (fun h2 => h1 (by rw [HX.out, HYV.out]; exact h2.2 i hlt))
      clear hV1
      by_cases q1 : x < 1
      · have HE := Lib.hid (HEN.out (fun h => by rcases h with h | h <;> omega))
        obtain ⟨⟨y0, y1, y2, y3, y4, y5, y6, y7, y8, y9, y10⟩, g0, g1, g2, g3, g4, g5, g6, g7, g8, g9, g10⟩ := rowN11 hY.out
        have zr := Lib.hid (nrow_below (lput11 hY.out rfl (.int .i64 0) (.int .i64 0) (.bool false) (.int .i64 0) (.int .i64 0) (.slice none 0 0) (.int .i64 0) (.int .i64 0) (.slice none 0 0) (.int .i64 0) (.int .i64 1)) (nbel_alloc _ (.cells #[.int .i64 x, .int .i64 y] 35)))
        have zb := Lib.hid ((lbel11 hB.out (Nat.le_refl _) (.int .i64 0) (.int .i64 0) (.bool false) (.int .i64 0) (.int .i64 0) (.slice none 0 0) (.int .i64 0) (.int .i64 0) (.slice none 0 0) (.int .i64 0) (.int .i64 1)).trans ((nbel_alloc _ (.cells #[.int .i64 x, .int .i64 y] 35)).mono (by simpa using hB.out.size)))
        go_wp2_with fail
        refine bodyPost_ret (v := loV Ln.S.zero Ln.M.new none 0 none 0 1) ?_ rfl ⟨by rw [HE.out.1, HE.out.2.1, HE.out.2.2]; exact LoEnd.zero 1 _ _, zb.out⟩
        obtain ⟨⟨t0, t1, t2, t3, t4, t5, t6, t7, t8, t9, t10⟩, _⟩ := rowN11 zr.out
        simp only [results, Tryz.results7]
        simp [go_sem, t0, t1, t2, t3, t4, t5, t6, t7, t8, t9, t10, loV, Ln.S.zero, Ln.M.new]
      by_cases q2 : 2 < x
      · have HE := Lib.hid (HEN.out (fun h => by rcases h with h | h <;> omega))
        obtain ⟨⟨y0, y1, y2, y3, y4, y5, y6, y7, y8, y9, y10⟩, g0, g1, g2, g3, g4, g5, g6, g7, g8, g9, g10⟩ := rowN11 hY.out
        have zr := Lib.hid (nrow_below (lput11 hY.out rfl (.int .i64 0) (.int .i64 0) (.bool false) (.int .i64 0) (.int .i64 0) (.slice none 0 0) (.int .i64 0) (.int .i64 0) (.slice none 0 0) (.int .i64 0) (.int .i64 1)) (nbel_alloc _ (.cells #[.int .i64 x, .int .i64 y] 35)))
        have zb := Lib.hid ((lbel11 hB.out (Nat.le_refl _) (.int .i64 0) (.int .i64 0) (.bool false) (.int .i64 0) (.int .i64 0) (.slice none 0 0) (.int .i64 0) (.int .i64 0) (.slice none 0 0) (.int .i64 0) (.int .i64 1)).trans ((nbel_alloc _ (.cells #[.int .i64 x, .int .i64 y] 35)).mono (by simpa using hB.out.size)))
        go_wp2_with fail
        refine bodyPost_ret (v := loV Ln.S.zero Ln.M.new none 0 none 0 1) ?_ rfl ⟨by rw [HE.out.1, HE.out.2.1, HE.out.2.2]; exact LoEnd.zero 1 _ _, zb.out⟩
        obtain ⟨⟨t0, t1, t2, t3, t4, t5, t6, t7, t8, t9, t10⟩, _⟩ := rowN11 zr.out
        simp only [results, Tryz.results7]
        simp [go_sem, t0, t1, t2, t3, t4, t5, t6, t7, t8, t9, t10, loV, Ln.S.zero, Ln.M.new]
      go_wp2_with fail
      rw [← HV1.out]
      clear x0 x1 HV1
      refine (sval19_any y _).mono ?_
      rintro e w' ⟨rfl, rfl⟩
      obtain ⟨⟨x0, x1⟩, _⟩ := rowN2 X1.out
      by_cases q3 : -1000000 ≤ y ∧ y ≤ 1000000
      case neg =>
        rw [decide_eq_false q3]
        have HE := Lib.hid (HEN.out (fun h => by rcases h with h | h <;> omega))
        obtain ⟨⟨y0, y1, y2, y3, y4, y5, y6, y7, y8, y9, y10⟩, g0, g1, g2, g3, g4, g5, g6, g7, g8, g9, g10⟩ := rowN11 Y1.out
        have hl0 := Y1.out.lt
        have zr := Lib.hid (lput11 Y1.out rfl (.int .i64 0) (.int .i64 0) (.bool false) (.int .i64 0) (.int .i64 0) (.slice none 0 0) (.int .i64 0) (.int .i64 0) (.slice none 0 0) (.int .i64 0) (.int .i64 1))
        have zb := Lib.hid (lbel11 B1.out (Nat.le_refl _) (.int .i64 0) (.int .i64 0) (.bool false) (.int .i64 0) (.int .i64 0) (.slice none 0 0) (.int .i64 0) (.int .i64 0) (.slice none 0 0) (.int .i64 0) (.int .i64 1))
        go_wp2_with fail
        refine bodyPost_ret (v := loV Ln.S.zero Ln.M.new none 0 none 0 1) ?_ rfl ⟨by rw [HE.out.1, HE.out.2.1, HE.out.2.2]; exact LoEnd.zero 1 _ _, zb.out⟩
        obtain ⟨⟨t0, t1, t2, t3, t4, t5, t6, t7, t8, t9, t10⟩, _⟩ := rowN11 zr.out
        clear y0 y1 y2 y3 y4 y5 y6 y7 y8 y9 y10 g0 g1 g2 g3 g4 g5 g6 g7 g8 g9 g10
        simp only [results, Tryz.results7]
        simp [go_sem, t0, t1, t2, t3, t4, t5, t6, t7, t8, t9, t10, loV, Ln.S.zero, Ln.M.new]
      rw [decide_eq_true q3]
      by_cases q4 : x = 2
      case neg =>
        have d4 : (x == 2) = false := by simpa using q4
        have HOK : Hid (Ln.EvOk x y) := Or.inl ⟨by omega, q3⟩
        clear q3 q4
        go_wp2_with fail
        go_roundw
        case rel => exact ⟨i + 1, by omega, by go_num, hok.out.step (by rw [← HX.out, ← HYV.out]; exact HOK.out), B1, Y1⟩
        case measure => simp [intOf]; omega
      have d4 : (x == 2) = true := by simpa using q4
      have HQ4 := Lib.hid q4
      have HQ3 := Lib.hid q3
      clear q3 q4
      by_cases q5 : y < 0
      · have HE := Lib.hid (HEN.out (fun h => by have := HQ4.out; rcases h with h | h <;> omega))
        obtain ⟨⟨y0, y1, y2, y3, y4, y5, y6, y7, y8, y9, y10⟩, g0, g1, g2, g3, g4, g5, g6, g7, g8, g9, g10⟩ := rowN11 Y1.out
        have hl0 := Y1.out.lt
        have zr := Lib.hid (lput11 Y1.out rfl (.int .i64 0) (.int .i64 0) (.bool false) (.int .i64 0) (.int .i64 0) (.slice none 0 0) (.int .i64 0) (.int .i64 0) (.slice none 0 0) (.int .i64 0) (.int .i64 1))
        have zb := Lib.hid (lbel11 B1.out (Nat.le_refl _) (.int .i64 0) (.int .i64 0) (.bool false) (.int .i64 0) (.int .i64 0) (.slice none 0 0) (.int .i64 0) (.int .i64 0) (.slice none 0 0) (.int .i64 0) (.int .i64 1))
        go_wp2_with fail
        refine bodyPost_ret (v := loV Ln.S.zero Ln.M.new none 0 none 0 1) ?_ rfl ⟨by rw [HE.out.1, HE.out.2.1, HE.out.2.2]; exact LoEnd.zero 1 _ _, zb.out⟩
        obtain ⟨⟨t0, t1, t2, t3, t4, t5, t6, t7, t8, t9, t10⟩, _⟩ := rowN11 zr.out
        clear y0 y1 y2 y3 y4 y5 y6 y7 y8 y9 y10 g0 g1 g2 g3 g4 g5 g6 g7 g8 g9 g10
        simp only [results, Tryz.results7]
        simp [go_sem, t0, t1, t2, t3, t4, t5, t6, t7, t8, t9, t10, loV, Ln.S.zero, Ln.M.new]
      by_cases q6 : 2 < y
      · have HE := Lib.hid (HEN.out (fun h => by have := HQ4.out; rcases h with h | h <;> omega))
        obtain ⟨⟨y0, y1, y2, y3, y4, y5, y6, y7, y8, y9, y10⟩, g0, g1, g2, g3, g4, g5, g6, g7, g8, g9, g10⟩ := rowN11 Y1.out
        have hl0 := Y1.out.lt
        have zr := Lib.hid (lput11 Y1.out rfl (.int .i64 0) (.int .i64 0) (.bool false) (.int .i64 0) (.int .i64 0) (.slice none 0 0) (.int .i64 0) (.int .i64 0) (.slice none 0 0) (.int .i64 0) (.int .i64 1))
        have zb := Lib.hid (lbel11 B1.out (Nat.le_refl _) (.int .i64 0) (.int .i64 0) (.bool false) (.int .i64 0) (.int .i64 0) (.slice none 0 0) (.int .i64 0) (.int .i64 0) (.slice none 0 0) (.int .i64 0) (.int .i64 1))
        go_wp2_with fail
        refine bodyPost_ret (v := loV Ln.S.zero Ln.M.new none 0 none 0 1) ?_ rfl ⟨by rw [HE.out.1, HE.out.2.1, HE.out.2.2]; exact LoEnd.zero 1 _ _, zb.out⟩
        obtain ⟨⟨t0, t1, t2, t3, t4, t5, t6, t7, t8, t9, t10⟩, _⟩ := rowN11 zr.out
        clear y0 y1 y2 y3 y4 y5 y6 y7 y8 y9 y10 g0 g1 g2 g3 g4 g5 g6 g7 g8 g9 g10
        simp only [results, Tryz.results7]
        simp [go_sem, t0, t1, t2, t3, t4, t5, t6, t7, t8, t9, t10, loV, Ln.S.zero, Ln.M.new]
      have HOK : Hid (Ln.EvOk x y) := Or.inr ⟨HQ4.out, by omega, by omega⟩
      go_wp2_with fail
      go_roundw
      case rel => exact ⟨i + 1, by omega, by go_num, hok.out.step (by rw [← HX.out, ← HYV.out]; exact HOK.out), B1, Y1⟩
      case measure => simp [intOf]; omega
    · obtain rfl : n = i := by omega
      have HOKS := Lib.hid hok.out
      obtain ⟨V, hV⟩ : ∃ V, V = (wr.alloc (.cells #[.int .i64 u, .int .i64 b, .bool false, .int .i64 0, .int .i64 1, .slice none 0 0, .int .i64 0] 28)).alloc (.cells #[.int .i64 0, .slice none 0 0, .int .i64 0] 30) := ⟨_, rfl⟩
      have hlw : w.heap.size < wr.heap.size := hY.out.lt
      have HS0 : Hid (SpS w.heap.size wr.heap.size (wr.heap.size + 1) (Ln.S.new u b) Ln.M.new none 0 none 0 w V) := by
        show SpS _ _ _ _ _ _ _ _ _ _ _
        rw [hV]
        have b1 : Below w.heap.size w (wr.alloc (.cells #[.int .i64 u, .int .i64 b, .bool false, .int .i64 0, .int .i64 1, .slice none 0 0, .int .i64 0] 28)) := hB.out.trans ((nbel_alloc _ _).mono hB.out.size)
        exact ⟨nrow_below (nrow_below hY.out (nbel_alloc _ _)) (nbel_alloc _ _), nrow_below (rowN_alloc wr [.int .i64 u, .int .i64 b, .bool false, .int .i64 0, .int .i64 1, .slice none 0 0, .int .i64 0] _) (nbel_alloc _ _), rowN_alloc' (by simp) [.int .i64 0, .slice none 0 0, .int .i64 0] _, Or.inl rfl, Or.inl rfl, fun _ _ _ _ h => absurd rfl h, ⟨Nat.le_refl _, hlw, by omega⟩, b1.trans ((nbel_alloc _ _).mono b1.size)⟩
      have HV := Lib.hid hV
      obtain ⟨sb, hsb⟩ : ∃ sb, sb = wr.heap.size := ⟨_, rfl⟩
      have HSB := Lib.hid hsb
      clear hV hok hB hY hlw HB HY
      go_wp2_with fail
      rw [← HV.out]
      rw [← hsb] at HS0 ⊢
      clear HV hsb HSB
      go_loopw [11, 12] (fun iv _ wr => ∃ (i : Nat) (a : Option Addr) (k : Nat) (b' : Option Addr) (l : Nat), i ≤ n ∧ iv = .int .i64 i ∧ Hid (SpS w.heap.size sb (sb + 1) (Ln.run u b f i).1 (Ln.run u b f i).2 a k b' l w wr)) (fun iv _ _ => n - (intOf iv).toNat)
      case atStart => exact ⟨0, none, 0, none, 0, Nat.zero_le _, rfl, HS0⟩
      case round =>
        clear HS0
        obtain ⟨i, a, k, b', l, hin, rfl, hS⟩ := hrel
        obtain ⟨S, M, hSM⟩ : ∃ S M, Ln.run u b f i = (S, M) := ⟨_, _, rfl⟩
        have HL := Ln.run_len u b f i
        rw [hSM] at hS HL
        have HS : Hid (SpS w.heap.size sb (sb + 1) S M a k b' l w wr) := hS
        have hl1 : Hid (S.wait.length ≤ 1048576) := HL.1
        have hl2 : Hid (M.notes.length ≤ 1048576) := HL.2
        have HSM := Lib.hid hSM
        have hnum := HS.out.num
        clear hS HL hSM
        by_cases hlt : i < n
        · have hltz : (i : Int) < (n : Int) := by omega
          have HR : Hid (Ln.run u b f (i + 1) = Ln.meet u (S, M) (f (i * 2)) (f (i * 2 + 1))) := Ln.run_at HSM.out
          have HOK : Hid (Ln.EvOk (f (i * 2)) (f (i * 2 + 1))) := HOKS.out i hlt
          obtain ⟨g, o, hea, c0, c1⟩ := (H.out.below HS.out.bel).at2 hlt
          obtain ⟨x, hx⟩ : ∃ x, x = f (i * 2) := ⟨_, rfl⟩
          obtain ⟨y, hy⟩ : ∃ y, y = f (i * 2 + 1) := ⟨_, rfl⟩
          have HX := Lib.hid hx
          have HYV := Lib.hid hy
          rw [← hx] at c0
          rw [← hy] at c1
          clear hx hy
          have HEA := Lib.hid hea
          subst hea
          obtain ⟨V1, hV1⟩ : ∃ V1, V1 = wr.alloc (.cells #[.int .i64 x, .int .i64 y] 35) := ⟨_, rfl⟩
          have X1 : Hid (V1.rowIs wr.heap.size 35 2 (rowN [.int .i64 x, .int .i64 y])) := by show V1.rowIs _ _ _ _; rw [hV1]; exact rowN_alloc wr [.int .i64 x, .int .i64 y] _
          have H1 : Hid (SpS w.heap.size sb (sb + 1) S M a k b' l w V1) := by show SpS _ _ _ _ _ _ _ _ _ _ _; rw [hV1]; exact HS.out.below (nbel_alloc _ _)
          rw [← HX.out, ← HYV.out] at HR HOK
          have HV1 := Lib.hid hV1
          obtain ⟨gx, hgx⟩ : ∃ gx, gx = wr.heap.size := ⟨_, rfl⟩
          have hgl : sb + 1 < gx := by rw [hgx]; exact HS.out.rm.lt
          rw [← hgx] at X1
          have HGX := Lib.hid hgx
          obtain ⟨⟨x0, x1⟩, _⟩ := rowN2 X1.out
          rw [hV1, hgx] at x0 x1
          clear hV1 hgx HS
          by_cases e1 : x = 1
          case pos =>
            have d1 : (x == 1) = true := by simpa using e1
            have HM : Hid (Ln.run u b f (i + 1) = (S.note y, M)) := by show _ = _; rw [HR.out]; exact Ln.meet_value u S M e1
            clear e1
            obtain ⟨⟨s0, s1, s2, s3, s4, s5, s6⟩, _⟩ := rowN7 H1.out.rs
            rw [HV1.out] at s0 s1 s2 s3 s4 s5 s6
            go_wp2_with fail
            rw [← HV1.out]
            clear x0 x1 s0 s1 s2 s3 s4 s5 s6 c0 c1
            refine (specNote_any S a k y _ H1.out.ts.in_ hl1.out).mono ?_
            rintro e V2 ⟨⟨a2, k2, rfl, hq⟩, hb⟩
            obtain ⟨X, hX⟩ : ∃ X, X = S.note y := ⟨_, rfl⟩
            rw [← hX] at hq HM ⊢
            have H2 := Lib.hid (H1.out.below hb)
            have H3 := Lib.hid (H1.out.setS (k' := k2) hb hq)
            clear hX hb hq H1
            obtain ⟨⟨s0, s1, s2, s3, s4, s5, s6⟩, z0, z1, z2, z3, z4, z5, z6⟩ := rowN7 H2.out.rs
            have hl := H2.out.rs.lt
            go_wp2_with fail
            clear s0 s1 s2 s3 s4 s5 s6 z0 z1 z2 z3 z4 z5 z6 hl H2
            go_roundw
            case rel => exact ⟨i + 1, a2, k2, b', l, by omega, by go_num, by show SpS _ _ _ _ _ _ _ _ _ _ _; rw [HM.out]; exact H3.out⟩
            case measure => simp [intOf]; omega
          have d1 : (x == 1) = false := by simpa using e1
          by_cases e2 : y = 2
          case pos =>
            have d2 : (y == 2) = true := by simpa using e2
            have HM : Hid (Ln.run u b f (i + 1) = (S, M)) := by show _ = _; rw [HR.out]; exact Ln.meet_lost u S M e1 e2
            clear e1 e2
            go_wp2_with fail
            rw [← HV1.out]
            go_roundw
            case rel => exact ⟨i + 1, a, k, b', l, by omega, by go_num, by show SpS _ _ _ _ _ _ _ _ _ _ _; rw [HM.out]; exact H1.out⟩
            case measure => simp [intOf]; omega
          have d2 : (y == 2) = false := by simpa using e2
          go_wp2_with fail
          rw [← HV1.out, ← HGX.out]
          clear HV1 x0 x1 c0 c1
          refine region_L (fun Y => SpS w.heap.size sb (sb + 1) S M a k b' l w Y) 5 (by kernel_rfl) (H1.out.below (Below.refl _ _).drew) (fun hHeld => ?_)
          have X2 := Lib.hid (nrow_below X1.out (Below.refl _ _).drew)
          clear H1 X1
          generalize V1.drew = V2 at hHeld X2 ⊢
          refine takeL_do (i := 0) (v := (maV M b' l)) rfl (by kernel_rfl) (by kernel_rfl) (by kernel_rfl) (by kernel_rfl) (fun _ _ _ h => h) (by rfl) ?_ (by assumption) ?_
          · intro w hSw
            obtain ⟨⟨x0, x1, x2⟩, _⟩ := rowN3 hSw.rm
            go_simp
          simp only [Act.put, List.setIfInBounds_toArray, List.set_cons_zero, List.set_cons_succ]
          refine takeL_do (i := 1) (v := (.int .i64 u)) rfl (by kernel_rfl) (by kernel_rfl) (by kernel_rfl) (by kernel_rfl) (fun _ _ _ h => h) (by rfl) ?_ (by assumption) ?_
          · intro w hSw
            go_simp
          simp only [Act.put, List.setIfInBounds_toArray, List.set_cons_zero, List.set_cons_succ]
          refine takeL_do (i := 2) (v := (stV S a k)) rfl (by kernel_rfl) (by kernel_rfl) (by kernel_rfl) (by kernel_rfl) (fun _ _ _ h => h) (by rfl) ?_ (by assumption) ?_
          · intro w hSw
            obtain ⟨⟨x0, x1, x2, x3, x4, x5, x6⟩, _⟩ := rowN7 hSw.rs
            go_simp
          simp only [Act.put, List.setIfInBounds_toArray, List.set_cons_zero, List.set_cons_succ]
          refine takeL_call (i := 3) rfl (by kernel_rfl) (fun K2 hK => ?_)
          go_simp
          refine (specSend_any S a k _ hHeld.ts.in_ hl1.out).mono ?_
          rintro e V3 ⟨rfl, hb⟩
          have X3 := Lib.hid (nrow_below X2.out hb)
          have H3 := Lib.hid (hHeld.below hb)
          go_wp2_with fail
          refine hK.out _ _ H3.out (fun hHeld2 => ?_)
          clear hK hHeld hb X2 H3
          have hHeld := hHeld2
          clear hHeld2
          refine takeL_call (i := 4) rfl (by kernel_rfl) (fun K2 hK => ?_)
          go_simp
          refine (specTake_any M b' l u ⟨S.send.toArray⟩ _ hHeld.tm.in_ hl2.out (by have := Ln.send_len S; show S.send.length ≤ _; omega)).mono ?_
          rintro e V4 ⟨⟨b3, l3, rfl, hq3⟩, hb3⟩
          have e4 : (⟨S.send.toArray⟩ : ByteArray).data.toList = S.send := rfl
          rw [e4] at hq3 ⊢
          obtain ⟨X, hX⟩ : ∃ X, X = M.take u S.send := ⟨_, rfl⟩
          rw [← hX] at hq3 ⊢
          have HXX := Lib.hid hX
          have X4 := Lib.hid (nrow_below X3.out hb3)
          have H4 := Lib.hid (hHeld.below hb3)
          have H5 := Lib.hid (hHeld.setM (l' := l3) hb3 hq3)
          go_wp2_with fail
          refine hK.out _ _ H4.out (fun hHeld2 => ?_)
          clear hK hHeld hb3 hq3 hX X3 e4 hHeld2
          obtain ⟨⟨m0, m1, m2⟩, p0, p1, p2⟩ := rowN3 H4.out.rm
          have hl3 := H4.out.rm.lt
          have X5 : Hid ((((V4.setCell ⟨sb + 1, 0, none⟩ (.int .i64 X.seq)).setCell ⟨sb + 1, 1, none⟩ (.slice b3 X.notes.length l3)).setCell ⟨sb + 1, 2, none⟩ (.int .i64 X.gaps)).rowIs gx 35 2 (rowN [.int .i64 x, .int .i64 y])) := X4.out.of_block (lblk3 (by omega) (.int .i64 X.seq) (.slice b3 X.notes.length l3) (.int .i64 X.gaps))
          refine takeL_last rfl (by kernel_rfl) (by kernel_rfl) (fun K2 hK => ?_)
          go_simp
          refine hK.out _ _ ?_
          clear hK H4 X4 m0 m1 m2 p0 p1 p2 hl3
          simp only [← HXX.out]
          generalize (((V4.setCell ⟨sb + 1, 0, none⟩ (.int .i64 X.seq)).setCell ⟨sb + 1, 1, none⟩ (.slice b3 X.notes.length l3)).setCell ⟨sb + 1, 2, none⟩ (.int .i64 X.gaps)) = V5 at H5 X5 ⊢
          obtain ⟨⟨x0, x1⟩, _⟩ := rowN2 X5.out
          by_cases e0 : y = 0
          case neg =>
            have d0 : (y == 0) = false := by simpa using e0
            have HM : Hid (Ln.run u b f (i + 1) = (S, X)) := by show _ = _; rw [HR.out, HXX.out]; exact Ln.meet_unheard u S M e1 e2 e0
            clear e0 e1 e2
            go_wp2_with fail
            go_roundw
            case rel => exact ⟨i + 1, a, k, b3, l3, by omega, by go_num, by show SpS _ _ _ _ _ _ _ _ _ _ _; rw [HM.out]; exact H5.out⟩
            case measure => simp [intOf]; omega
          have d0 : (y == 0) = true := by simpa using e0
          have HM : Hid (Ln.run u b f (i + 1) = (S.heard X.seq, X)) := by show _ = _; rw [HR.out, HXX.out]; exact Ln.meet_good u S M e1 e0
          clear e0 e1 e2
          obtain ⟨⟨s0, s1, s2, s3, s4, s5, s6⟩, _⟩ := rowN7 H5.out.rs
          obtain ⟨⟨m0, m1, m2⟩, _⟩ := rowN3 H5.out.rm
          go_wp2_with fail
          clear x0 x1 s0 s1 s2 s3 s4 s5 s6 m0 m1 m2
          refine (specHeard_any S a k X.seq _ H5.out.ts.in_ hl1.out).mono ?_
          rintro e V6 ⟨⟨a6, k6, rfl, hq⟩, hb⟩
          obtain ⟨Y, hY⟩ : ∃ Y, Y = S.heard X.seq := ⟨_, rfl⟩
          rw [← hY] at hq HM ⊢
          have H6 := Lib.hid (H5.out.below hb)
          have H7 := Lib.hid (H5.out.setS (k' := k6) hb hq)
          clear hY hb hq H5 X5
          obtain ⟨⟨s0, s1, s2, s3, s4, s5, s6⟩, z0, z1, z2, z3, z4, z5, z6⟩ := rowN7 H6.out.rs
          have hl := H6.out.rs.lt
          go_wp2_with fail
          clear s0 s1 s2 s3 s4 s5 s6 z0 z1 z2 z3 z4 z5 z6 hl H6
          go_roundw
          case rel => exact ⟨i + 1, a6, k6, b3, l3, by omega, by go_num, by show SpS _ _ _ _ _ _ _ _ _ _ _; rw [HM.out]; exact H7.out⟩
          case measure => simp [intOf]; omega
        · obtain rfl : i = n := by omega
          have HE : Hid (Ln.lcode u b f i = 0 ∧ Ln.lst u b f i = S ∧ Ln.lma u b f i = M) := by
            have := Ln.lout_yes hn HF.out HOKS.out
            rw [HSM.out] at this
            exact this
          obtain ⟨⟨s0, s1, s2, s3, s4, s5, s6⟩, _⟩ := rowN7 HS.out.rs
          obtain ⟨⟨m0, m1, m2⟩, _⟩ := rowN3 HS.out.rm
          obtain ⟨⟨y0, y1, y2, y3, y4, y5, y6, y7, y8, y9, y10⟩, g0, g1, g2, g3, g4, g5, g6, g7, g8, g9, g10⟩ := rowN11 HS.out.ro
          have hl0 := HS.out.ro.lt
          have zr := Lib.hid (lput11 HS.out.ro rfl (.int .i64 S.unit) (.int .i64 S.band) (.bool S.seen) (.int .i64 S.last) (.int .i64 S.next) (.slice a S.wait.length k) (.int .i64 S.drops) (.int .i64 M.seq) (.slice b' M.notes.length l) (.int .i64 M.gaps) (.int .i64 0))
          have zb := Lib.hid (lbel11 HS.out.bel (Nat.le_refl _) (.int .i64 S.unit) (.int .i64 S.band) (.bool S.seen) (.int .i64 S.last) (.int .i64 S.next) (.slice a S.wait.length k) (.int .i64 S.drops) (.int .i64 M.seq) (.slice b' M.notes.length l) (.int .i64 M.gaps) (.int .i64 0))
          have z1 : Hid (NqOwn 37 (sb + 1 + 1) S.wait.length a (Ln.fl S.wait) (((((((((((wr.setCell ⟨w.heap.size, 0, none⟩ (.int .i64 S.unit)).setCell ⟨w.heap.size, 1, none⟩ (.int .i64 S.band)).setCell ⟨w.heap.size, 2, none⟩ (.bool S.seen)).setCell ⟨w.heap.size, 3, none⟩ (.int .i64 S.last)).setCell ⟨w.heap.size, 4, none⟩ (.int .i64 S.next)).setCell ⟨w.heap.size, 5, none⟩ (.slice a S.wait.length k)).setCell ⟨w.heap.size, 6, none⟩ (.int .i64 S.drops)).setCell ⟨w.heap.size, 7, none⟩ (.int .i64 M.seq)).setCell ⟨w.heap.size, 8, none⟩ (.slice b' M.notes.length l)).setCell ⟨w.heap.size, 9, none⟩ (.int .i64 M.gaps)).setCell ⟨w.heap.size, 10, none⟩ (.int .i64 0))) := HS.out.ts.same (fun zz hz _ => lblk11 (by omega) (.int .i64 S.unit) (.int .i64 S.band) (.bool S.seen) (.int .i64 S.last) (.int .i64 S.next) (.slice a S.wait.length k) (.int .i64 S.drops) (.int .i64 M.seq) (.slice b' M.notes.length l) (.int .i64 M.gaps) (.int .i64 0))
          have z2 : Hid (NqOwn 37 (sb + 1 + 1) M.notes.length b' (Ln.fl M.notes) (((((((((((wr.setCell ⟨w.heap.size, 0, none⟩ (.int .i64 S.unit)).setCell ⟨w.heap.size, 1, none⟩ (.int .i64 S.band)).setCell ⟨w.heap.size, 2, none⟩ (.bool S.seen)).setCell ⟨w.heap.size, 3, none⟩ (.int .i64 S.last)).setCell ⟨w.heap.size, 4, none⟩ (.int .i64 S.next)).setCell ⟨w.heap.size, 5, none⟩ (.slice a S.wait.length k)).setCell ⟨w.heap.size, 6, none⟩ (.int .i64 S.drops)).setCell ⟨w.heap.size, 7, none⟩ (.int .i64 M.seq)).setCell ⟨w.heap.size, 8, none⟩ (.slice b' M.notes.length l)).setCell ⟨w.heap.size, 9, none⟩ (.int .i64 M.gaps)).setCell ⟨w.heap.size, 10, none⟩ (.int .i64 0))) := HS.out.tm.same (fun zz hz _ => lblk11 (by omega) (.int .i64 S.unit) (.int .i64 S.band) (.bool S.seen) (.int .i64 S.last) (.int .i64 S.next) (.slice a S.wait.length k) (.int .i64 S.drops) (.int .i64 M.seq) (.slice b' M.notes.length l) (.int .i64 M.gaps) (.int .i64 0))
          have DJ := Lib.hid HS.out.dj
          clear HS
          go_wp2_with fail
          refine bodyPost_ret (v := loV S M a k b' l 0) ?_ rfl ⟨by rw [HE.out.1, HE.out.2.1, HE.out.2.2]; exact ⟨a, k, b', l, rfl, z1.out.low (by omega), z2.out.low (by omega), DJ.out⟩, zb.out⟩
          clear y0 y1 y2 y3 y4 y5 y6 y7 y8 y9 y10 g0 g1 g2 g3 g4 g5 g6 g7 g8 g9 g10 s0 s1 s2 s3 s4 s5 s6 m0 m1 m2 z1 z2 zb DJ
          obtain ⟨⟨t0, t1, t2, t3, t4, t5, t6, t7, t8, t9, t10⟩, _⟩ := rowN11 zr.out
          simp only [results, Tryz.results7]
          simp [go_sem, t0, t1, t2, t3, t4, t5, t6, t7, t8, t9, t10, loV]
end Go.Proofs.YtighcbpcclifoaaGreatDoor
namespace Go.Proofs.YtighcbpcclifoaaGreatDoor
open Go.RowKit Go.Deep

/-- A wire in memory. -/
def wiL (u : Int) (p : Nat) (m : Ln.M) (a : Option Addr) (k : Nat) : List Value := [.int .i64 u, .pointer (some ⟨p, 0, none⟩), .int .i64 m.seq, .slice a m.notes.length k, .int .i64 m.gaps]
structure WiS (u : Int) (p q : Nat) (s : Ln.S) (m : Ln.M) (a : Option Addr) (k : Nat) (b : Option Addr) (l : Nat) (n : Int) (w0 W : World) : Prop where
  rp : W.rowIs p 107 10 (rowN (poL 0 s a k n))
  rq : W.rowIs q 66 5 (rowN (wiL u p m b l))
  ts : NqOwn 37 (q + 1) s.wait.length a (Ln.fl s.wait) W
  tm : NqOwn 37 (q + 1) m.notes.length b (Ln.fl m.notes) W
  dj : ∀ g o g' o', s.wait.length ≠ 0 → m.notes.length ≠ 0 → a = some ⟨g, o, none⟩ → b = some ⟨g', o', none⟩ → g ≠ g'
  num : w0.heap.size ≤ p ∧ p < q
  bel : Below w0.heap.size w0 W
  nb : Nb n
section
variable {u : Int} {p q : Nat} {s : Ln.S} {m : Ln.M} {a : Option Addr} {k : Nat} {b : Option Addr} {l : Nat} {n : Int} {w0 W W' : World}
theorem WiS.below (h : WiS u p q s m a k b l n w0 W) (hb : Below W.heap.size W W') : WiS u p q s m a k b l n w0 W' :=
  ⟨nrow_below h.rp hb, nrow_below h.rq hb, h.ts.below hb, h.tm.below hb, h.dj, h.num, h.bel.trans (hb.mono h.bel.size), h.nb⟩
theorem WiS.post (h : WiS u p q s m a k b l n w0 W) {s' : Ln.S} (he : PoEnd s' n p W W') : ∃ a' k', WiS u p q s' m a' k' b l n w0 W' := by
  obtain ⟨a', k', h1, h2, h3⟩ := he
  obtain ⟨o1, o2⟩ := h.num
  have hq := h.rq.lt
  refine ⟨a', k', h1, h3.row (by omega) h.rq, h2.low hq, h3.own (by omega) h.tm, fun g o g' o' e1 e2 e3 e4 => ?_, h.num, h3.bel h.bel o1 h.bel.size, h.nb⟩
  have hlt := h.tm.lt g' o' e2 e4
  rcases h2 with e | ⟨g2, o2, e5, e6, _⟩
  · exact absurd e e1
  · rw [e5] at e3
    cases e3
    omega
theorem WiS.ans (h : WiS u p q s m a k b l n w0 W) {n' : Int} (hnb : Nb n') (hr : W'.rowIs p 107 10 (rowN (poL 0 s a k n'))) (h3 : LnOnly p W W') : WiS u p q s m a k b l n' w0 W' := by
  obtain ⟨o1, o2⟩ := h.num
  exact ⟨hr, h3.row (by omega) h.rq, h3.own (by omega) h.ts, h3.own (by omega) h.tm, h.dj, h.num, h3.bel h.bel o1 h.bel.size, hnb⟩
theorem WiS.master (h : WiS u p q s m a k b l n w0 W) (hb : Below W.heap.size W W') {m' : Ln.M} {b' : Option Addr} {l' : Nat} (hq : NqOwn 37 W.heap.size m'.notes.length b' (Ln.fl m'.notes) W') :
    WiS u p q s m' a k b' l' n w0 (((W'.setCell ⟨q, 2, none⟩ (.int .i64 m'.seq)).setCell ⟨q, 3, none⟩ (.slice b' m'.notes.length l')).setCell ⟨q, 4, none⟩ (.int .i64 m'.gaps)) := by
  obtain ⟨o1, o2⟩ := h.num
  have hql := h.rq.lt
  have h' := h.below hb
  have hO := ((LnOnly.set (p := q) W' 2 (.int .i64 m'.seq)).trans (LnOnly.set _ 3 (.slice b' m'.notes.length l'))).trans (LnOnly.set _ 4 (.int .i64 m'.gaps))
  refine ⟨hO.row (by omega) h'.rp, rowN_put (rowN_put (rowN_put h'.rq 2 _ (by simp [wiL])) 3 _ (by simp [wiL])) 4 _ (by simp [wiL]), hO.own (by omega) h'.ts, hO.own (by omega) (hq.low hql), fun g o g' o' e1 e2 e3 e4 => ?_, h.num, hO.bel h'.bel (by omega) h'.bel.size, h.nb⟩
  have hlt := h.ts.lt g o e1 e3
  rcases hq with e | ⟨g2, o3, e5, e6, _⟩
  · exact absurd e e2
  · rw [e5] at e4
    cases e4
    omega
end
def WiEnd (u : Int) (p q : Nat) (s : Ln.S × Ln.M) (w0 W : World) : Prop := ∃ a k b l n, WiS u p q s.1 s.2 a k b l n w0 W
set_option maxRecDepth 100000 in
set_option maxHeartbeats 8000000 in
theorem wiPoll_any (u : Int) (p q : Nat) (s : Ln.S) (m : Ln.M) (a : Option Addr) (k : Nat) (b : Option Addr) (l : Nat) (n c : Int) (w0 W : World) (h : WiS u p q s m a k b l n w0 W) (hn : s.wait.length ≤ 1048576) (hm : m.notes.length ≤ 1048576) (hg : LnG w0) :
    Calls Tryz.prog 59 #[.pointer (some ⟨q, 0, none⟩), .int .i64 c] W fun e W' => e = .returned (.tuple #[]) ∧ WiEnd u p q (Ln.meet u (s, m) 2 c) w0 W' := by
  have H := Lib.hid h
  have HG := Lib.hid hg
  clear h hg
  go_enter Tryz.func59, Tryz.ntmps59
  by_cases e2 : c = 2
  · subst e2
    go_wp2_with fail
    refine bodyPost_ret (v := .tuple #[]) (by simp [results, Tryz.results59, go_sem]) rfl ⟨rfl, ?_⟩
    rw [Ln.meet_lost u s m (by omega) rfl]
    exact ⟨a, k, b, l, n, H.out⟩
  have d2 : (c == 2) = false := by simpa using e2
  go_wp2_with fail
  refine region_L (fun Y => ∃ n, WiS u p q s m a k b l n w0 Y) 17 (by kernel_rfl) ⟨n, H.out.below (Below.refl _ _).drew⟩ (fun hHeld => ?_)
  clear H
  generalize W.drew = V at hHeld ⊢
  refine takeL_do (i := 0) (v := (.pointer (some ⟨q, 0, none⟩))) rfl (by kernel_rfl) (by kernel_rfl) (by kernel_rfl) (by kernel_rfl) (fun _ _ _ h => h) (by rfl) ?_ (by assumption) ?_
  · intro w hSw
    go_simp
  simp only [Act.put, List.setIfInBounds_toArray, List.set_cons_zero, List.set_cons_succ]
  refine takeL_do (i := 1) (v := (.pointer (some ⟨q, 0, none⟩))) rfl (by kernel_rfl) (by kernel_rfl) (by kernel_rfl) (by kernel_rfl) (fun _ _ _ h => h) (by rfl) ?_ (by assumption) ?_
  · intro w hSw
    go_simp
  simp only [Act.put, List.setIfInBounds_toArray, List.set_cons_zero, List.set_cons_succ]
  refine takeL_do (i := 2) (v := (.pointer (some ⟨q, 0, none⟩))) rfl (by kernel_rfl) (by kernel_rfl) (by kernel_rfl) (by kernel_rfl) (fun _ _ _ h => h) (by rfl) ?_ (by assumption) ?_
  · intro w hSw
    go_simp
  simp only [Act.put, List.setIfInBounds_toArray, List.set_cons_zero, List.set_cons_succ]
  refine takeL_do (i := 3) (v := (.pointer (some ⟨q, 2, none⟩))) rfl (by kernel_rfl) (by kernel_rfl) (by kernel_rfl) (by kernel_rfl) (fun _ _ _ h => h) (by rfl) ?_ (by assumption) ?_
  · intro w hSw
    go_simp
  simp only [Act.put, List.setIfInBounds_toArray, List.set_cons_zero, List.set_cons_succ]
  refine takeL_do (i := 4) (v := (maV m b l)) rfl (by kernel_rfl) (by kernel_rfl) (by kernel_rfl) (by kernel_rfl) (fun _ _ _ h => h) (by rfl) ?_ (by assumption) ?_
  · intro w hSw
    obtain ⟨nn, hSx⟩ := hSw
    obtain ⟨⟨x0, x1, x2, x3, x4⟩, _⟩ := rowN5l hSx.rq
    go_simp
  simp only [Act.put, List.setIfInBounds_toArray, List.set_cons_zero, List.set_cons_succ]
  refine takeL_do (i := 5) (v := (.pointer (some ⟨q, 0, none⟩))) rfl (by kernel_rfl) (by kernel_rfl) (by kernel_rfl) (by kernel_rfl) (fun _ _ _ h => h) (by rfl) ?_ (by assumption) ?_
  · intro w hSw
    go_simp
  simp only [Act.put, List.setIfInBounds_toArray, List.set_cons_zero, List.set_cons_succ]
  refine takeL_do (i := 6) (v := (.pointer (some ⟨q, 0, none⟩))) rfl (by kernel_rfl) (by kernel_rfl) (by kernel_rfl) (by kernel_rfl) (fun _ _ _ h => h) (by rfl) ?_ (by assumption) ?_
  · intro w hSw
    go_simp
  simp only [Act.put, List.setIfInBounds_toArray, List.set_cons_zero, List.set_cons_succ]
  refine takeL_do (i := 7) (v := (.pointer (some ⟨q, 0, none⟩))) rfl (by kernel_rfl) (by kernel_rfl) (by kernel_rfl) (by kernel_rfl) (fun _ _ _ h => h) (by rfl) ?_ (by assumption) ?_
  · intro w hSw
    go_simp
  simp only [Act.put, List.setIfInBounds_toArray, List.set_cons_zero, List.set_cons_succ]
  refine takeL_do (i := 8) (v := (.int .i64 u)) rfl (by kernel_rfl) (by kernel_rfl) (by kernel_rfl) (by kernel_rfl) (fun _ _ _ h => h) (by rfl) ?_ (by assumption) ?_
  · intro w hSw
    obtain ⟨nn, hSx⟩ := hSw
    obtain ⟨⟨x0, x1, x2, x3, x4⟩, _⟩ := rowN5l hSx.rq
    go_simp
  simp only [Act.put, List.setIfInBounds_toArray, List.set_cons_zero, List.set_cons_succ]
  refine takeL_do (i := 9) (v := (.pointer (some ⟨q, 0, none⟩))) rfl (by kernel_rfl) (by kernel_rfl) (by kernel_rfl) (by kernel_rfl) (fun _ _ _ h => h) (by rfl) ?_ (by assumption) ?_
  · intro w hSw
    go_simp
  simp only [Act.put, List.setIfInBounds_toArray, List.set_cons_zero, List.set_cons_succ]
  refine takeL_do (i := 10) (v := (.pointer (some ⟨q, 0, none⟩))) rfl (by kernel_rfl) (by kernel_rfl) (by kernel_rfl) (by kernel_rfl) (fun _ _ _ h => h) (by rfl) ?_ (by assumption) ?_
  · intro w hSw
    go_simp
  simp only [Act.put, List.setIfInBounds_toArray, List.set_cons_zero, List.set_cons_succ]
  refine takeL_do (i := 11) (v := (.pointer (some ⟨q, 1, none⟩))) rfl (by kernel_rfl) (by kernel_rfl) (by kernel_rfl) (by kernel_rfl) (fun _ _ _ h => h) (by rfl) ?_ (by assumption) ?_
  · intro w hSw
    go_simp
  simp only [Act.put, List.setIfInBounds_toArray, List.set_cons_zero, List.set_cons_succ]
  refine takeL_do (i := 12) (v := (.pointer (some ⟨p, 0, none⟩))) rfl (by kernel_rfl) (by kernel_rfl) (by kernel_rfl) (by kernel_rfl) (fun _ _ _ h => h) (by rfl) ?_ (by assumption) ?_
  · intro w hSw
    obtain ⟨nn, hSx⟩ := hSw
    obtain ⟨⟨x0, x1, x2, x3, x4⟩, _⟩ := rowN5l hSx.rq
    go_simp
  simp only [Act.put, List.setIfInBounds_toArray, List.set_cons_zero, List.set_cons_succ]
  refine takeL_call (i := 13) rfl (by kernel_rfl) (fun K2 hK => ?_)
  obtain ⟨n1, H1⟩ := hHeld
  obtain ⟨hp1, hp2⟩ := H1.num
  go_simp
  refine (poAnswer_any s a k n1 p w0 _ H1.rp (H1.ts.low (by omega)) hn HG.out.tab H1.bel hp1).mono ?_
  rintro e V2 ⟨rfl, ⟨n2, hnb2, hr2⟩, hon⟩
  have H2 := Lib.hid (H1.ans hnb2 hr2 hon)
  go_wp2_with fail
  refine hK.out _ _ ⟨n2, H2.out⟩ (fun hHeld2 => ?_)
  clear hK hHeld2 hr2 hon H1 hnb2
  have hHeld : ∃ n, WiS u p q s m a k b l n w0 V2 := ⟨n2, H2.out⟩
  refine takeL_call (i := 14) rfl (by kernel_rfl) (fun K2 hK => ?_)
  go_simp
  refine (implTake_any m b l u ⟨s.send.toArray⟩ _ H2.out.tm.in_ hm (HG.out.below H2.out.bel)).mono ?_
  rintro e V3 ⟨⟨b3, l3, rfl, hq3⟩, hb3⟩
  have e4 : (⟨s.send.toArray⟩ : ByteArray).data.toList = s.send := rfl
  rw [e4] at hq3 ⊢
  obtain ⟨X, hX⟩ : ∃ X, X = m.take u s.send := ⟨_, rfl⟩
  rw [← hX] at hq3 ⊢
  have HX := Lib.hid hX
  have H3 := Lib.hid (H2.out.below hb3)
  have H4 := Lib.hid (H2.out.master (l' := l3) hb3 hq3)
  go_wp2_with fail
  refine hK.out _ _ ⟨n2, H3.out⟩ (fun hHeld2 => ?_)
  clear hK hHeld hb3 hq3 hX H2 e4
  have hHeld := hHeld2
  clear hHeld2
  refine takeL_call (i := 15) rfl (by kernel_rfl) (fun K2 hK => ?_)
  go_simp
  refine hK.out _ _ hHeld (fun hHeld2 => ?_)
  clear hK hHeld
  have hHeld := hHeld2
  clear hHeld2
  refine takeL_do (i := 16) (v := (.pointer (some ⟨q, 2, none⟩))) rfl (by kernel_rfl) (by kernel_rfl) (by kernel_rfl) (by kernel_rfl) (fun _ _ _ h => h) (by rfl) ?_ (by assumption) ?_
  · intro w hSw
    go_simp
  simp only [Act.put, List.setIfInBounds_toArray, List.set_cons_zero, List.set_cons_succ]
  obtain ⟨⟨x0, x1, x2, x3, x4⟩, xf0, xf1, xf2, xf3, xf4⟩ := rowN5l H3.out.rq
  have hl3 := H3.out.rq.lt
  refine takeL_last rfl (by kernel_rfl) (by kernel_rfl) (fun K2 hK => ?_)
  go_simp
  refine hK.out _ _ ?_
  clear hK hHeld H3
  clear x0 x1 x2 x3 x4 xf0 xf1 xf2 xf3 xf4 hl3
  simp only [← HX.out]
  generalize ((V3.setCell ⟨q, 2, none⟩ (.int .i64 X.seq)).setCell ⟨q, 3, none⟩ (.slice b3 X.notes.length l3)).setCell ⟨q, 4, none⟩ (.int .i64 X.gaps) = V4 at H4 ⊢
  by_cases e0 : c = 0
  case neg =>
    have d0 : (c == 0) = false := by simpa using e0
    go_wp2_with fail
    refine bodyPost_end (v := .tuple #[]) (by simp [results, Tryz.results59, go_sem]) rfl ⟨rfl, ?_⟩
    rw [Ln.meet_unheard u s m (by omega) e2 e0, ← HX.out]
    exact ⟨a, k, b3, l3, n2, H4.out⟩
  subst e0
  go_wp2_with fail
  refine wp_region_held_drew (S := fun Y => Y.rowIs q 66 5 (rowN (wiL u p X b3 l3))) (by kernel_rfl) (H4.out.below (Below.refl _ _).drew).rq (fun hHeld => ?_)
  have H5 := Lib.hid (H4.out.below (Below.refl _ _).drew)
  clear H4
  generalize V4.drew = V5 at hHeld H5 ⊢
  refine take_do (i := 0) (v := (.pointer (some ⟨q, 0, none⟩))) rfl (by kernel_rfl) (by kernel_rfl) (by kernel_rfl) (fun _ _ _ h => h) (by rfl) ?_ (by assumption) ?_
  · intro w hSw
    go_simp
  simp only [Act.put, List.setIfInBounds_toArray, List.set_cons_zero, List.set_cons_succ]
  refine take_do (i := 1) (v := (.pointer (some ⟨q, 0, none⟩))) rfl (by kernel_rfl) (by kernel_rfl) (by kernel_rfl) (fun _ _ _ h => h) (by rfl) ?_ (by assumption) ?_
  · intro w hSw
    go_simp
  simp only [Act.put, List.setIfInBounds_toArray, List.set_cons_zero, List.set_cons_succ]
  refine take_do (i := 2) (v := (.pointer (some ⟨q, 1, none⟩))) rfl (by kernel_rfl) (by kernel_rfl) (by kernel_rfl) (fun _ _ _ h => h) (by rfl) ?_ (by assumption) ?_
  · intro w hSw
    go_simp
  simp only [Act.put, List.setIfInBounds_toArray, List.set_cons_zero, List.set_cons_succ]
  refine take_do (i := 3) (v := (.pointer (some ⟨p, 0, none⟩))) rfl (by kernel_rfl) (by kernel_rfl) (by kernel_rfl) (fun _ _ _ h => h) (by rfl) ?_ (by assumption) ?_
  · intro w hSw
    obtain ⟨⟨x0, x1, x2, x3, x4⟩, _⟩ := rowN5l hSw
    go_simp
  simp only [Act.put, List.setIfInBounds_toArray, List.set_cons_zero, List.set_cons_succ]
  refine take_do (i := 4) (v := (.pointer (some ⟨q, 0, none⟩))) rfl (by kernel_rfl) (by kernel_rfl) (by kernel_rfl) (fun _ _ _ h => h) (by rfl) ?_ (by assumption) ?_
  · intro w hSw
    go_simp
  simp only [Act.put, List.setIfInBounds_toArray, List.set_cons_zero, List.set_cons_succ]
  refine take_do (i := 5) (v := (.pointer (some ⟨q, 0, none⟩))) rfl (by kernel_rfl) (by kernel_rfl) (by kernel_rfl) (fun _ _ _ h => h) (by rfl) ?_ (by assumption) ?_
  · intro w hSw
    go_simp
  simp only [Act.put, List.setIfInBounds_toArray, List.set_cons_zero, List.set_cons_succ]
  refine take_do (i := 6) (v := (.pointer (some ⟨q, 2, none⟩))) rfl (by kernel_rfl) (by kernel_rfl) (by kernel_rfl) (fun _ _ _ h => h) (by rfl) ?_ (by assumption) ?_
  · intro w hSw
    go_simp
  simp only [Act.put, List.setIfInBounds_toArray, List.set_cons_zero, List.set_cons_succ]
  refine take_do (i := 7) (v := (.pointer (some ⟨q, 2, none⟩))) rfl (by kernel_rfl) (by kernel_rfl) (by kernel_rfl) (fun _ _ _ h => h) (by rfl) ?_ (by assumption) ?_
  · intro w hSw
    go_simp
  simp only [Act.put, List.setIfInBounds_toArray, List.set_cons_zero, List.set_cons_succ]
  refine take_do (i := 8) (v := (.int .i64 X.seq)) rfl (by kernel_rfl) (by kernel_rfl) (by kernel_rfl) (fun _ _ _ h => h) (by rfl) ?_ (by assumption) ?_
  · intro w hSw
    obtain ⟨⟨x0, x1, x2, x3, x4⟩, _⟩ := rowN5l hSw
    go_simp
  simp only [Act.put, List.setIfInBounds_toArray, List.set_cons_zero, List.set_cons_succ]
  refine take_call (i := 9) rfl (by kernel_rfl) (fun K2 hK => ?_)
  go_simp
  refine (poHear_any s a k n2 X.seq p _ H5.out.rp (H5.out.ts.low (by omega)) hn).mono ?_
  rintro e V6 ⟨rfl, hE⟩
  obtain ⟨a6, k6, H6⟩ := H5.out.post hE
  have HH6 := Lib.hid H6
  clear H6 H5 hE
  go_wp2_with fail
  refine hK.out _ _ HH6.out.rq (fun hHeld2 => ?_)
  clear hK hHeld hHeld2
  refine wpAnyH_done (by kernel_rfl) ?_ _
  go_wp2_with fail
  refine bodyPost_end (v := .tuple #[]) (by simp [results, Tryz.results59, go_sem]) rfl ⟨rfl, ?_⟩
  rw [Ln.meet_good u s m (by omega) rfl, ← HX.out]
  exact ⟨a6, k6, b3, l3, n2, HH6.out⟩
end Go.Proofs.YtighcbpcclifoaaGreatDoor
namespace Go.Proofs.YtighcbpcclifoaaGreatDoor
open Go.RowKit Go.Deep

theorem evok_one {x y : Int} (h : x = 1) : lB (Ln.EvOk x y) = decide (-1000000 ≤ y ∧ y ≤ 1000000) := by
  by_cases c : -1000000 ≤ y ∧ y ≤ 1000000
  · rw [lB_tt (show Ln.EvOk x y from Or.inl ⟨h, c⟩), decide_eq_true c]
  · rw [lB_ff (show ¬ Ln.EvOk x y from fun k => by rcases k with k | k <;> omega), decide_eq_false c]
theorem evok_two {x y : Int} (h : x = 2) : lB (Ln.EvOk x y) = decide (0 ≤ y ∧ y ≤ 2) := by
  by_cases c : 0 ≤ y ∧ y ≤ 2
  · rw [lB_tt (show Ln.EvOk x y from Or.inr ⟨h, c⟩), decide_eq_true c]
  · rw [lB_ff (show ¬ Ln.EvOk x y from fun k => by rcases k with k | k <;> omega), decide_eq_false c]
set_option maxRecDepth 100000 in
set_option maxHeartbeats 8000000 in
theorem evRight_any (x y : Int) (w : World) :
    Calls Tryz.prog 57 #[.agg #[.int .i64 x, .int .i64 y]] w fun e w' => e = .returned (.bool (lB (Ln.EvOk x y))) ∧ Below w.heap.size w w' := by
  obtain ⟨W, hW⟩ : ∃ W, W = w.alloc (.cells #[.int .i64 x, .int .i64 y] 35) := ⟨_, rfl⟩
  have HB : Hid (Below w.heap.size w W) := by show Below _ _ _; rw [hW]; exact nbel_alloc _ _
  have HX : Hid (W.rowIs w.heap.size 35 2 (rowN [.int .i64 x, .int .i64 y])) := by show W.rowIs _ _ _ _; rw [hW]; exact rowN_alloc w [.int .i64 x, .int .i64 y] _
  obtain ⟨⟨x0, x1⟩, _⟩ := rowN2 HX.out
  rw [hW] at x0 x1
  have HW := Lib.hid hW
  clear hW
  go_enter Tryz.func57, Tryz.ntmps57
  by_cases e1 : x = 1
  · have d1 : (x == 1) = true := by simpa using e1
    have HE : Hid (lB (Ln.EvOk x y) = decide (-1000000 ≤ y ∧ y ≤ 1000000)) := evok_one e1
    clear e1
    go_wp2_with fail
    refine (labout_any y 1000000 (by omega) (by omega) _).mono ?_
    rintro e w' ⟨rfl, rfl⟩
    go_wp2_with fail
    go_ret
    exact ⟨by rw [HE.out]; simp, by rw [← HW.out]; exact HB.out⟩
  have d1 : (x == 1) = false := by simpa using e1
  by_cases e2 : x = 2
  · have d2 : (x == 2) = true := by simpa using e2
    have HE : Hid (lB (Ln.EvOk x y) = decide (0 ≤ y ∧ y ≤ 2)) := evok_two e2
    clear e1 e2
    go_wp2_with fail
    refine (lwithin_any y 2 _).mono ?_
    rintro e w' ⟨rfl, rfl⟩
    go_wp2_with fail
    go_ret
    exact ⟨by rw [HE.out]; simp, by rw [← HW.out]; exact HB.out⟩
  have d2 : (x == 2) = false := by simpa using e2
  have HE : Hid (lB (Ln.EvOk x y) = false) := lB_ff (fun h => by rcases h with h | h <;> omega)
  clear e1 e2
  go_wp2_with fail
  go_ret
  exact ⟨by rw [HE.out]; simp, by rw [← HW.out]; exact HB.out⟩
set_option maxRecDepth 100000 in
set_option maxHeartbeats 8000000 in
theorem wiMeet_any (u : Int) (p q : Nat) (s : Ln.S) (m : Ln.M) (a : Option Addr) (k : Nat) (b : Option Addr) (l : Nat) (n x y : Int) (w0 w : World) (h : WiS u p q s m a k b l n w0 w) (hn : s.wait.length ≤ 1048576) (hm : m.notes.length ≤ 1048576) (hg : LnG w0) :
    Calls Tryz.prog 43 #[.pointer (some ⟨q, 0, none⟩), .agg #[.int .i64 x, .int .i64 y]] w fun e W' => (Ln.EvOk x y ∧ e = .returned .nilIface ∧ WiEnd u p q (Ln.meet u (s, m) x y) w0 W') ∨ (¬ Ln.EvOk x y ∧ e = .returned (.iface 89 (.agg #[.int .i64 1])) ∧ WiEnd u p q (s, m) w0 W') := by
  obtain ⟨W, hW⟩ : ∃ W, W = w.alloc (.cells #[.int .i64 x, .int .i64 y] 35) := ⟨_, rfl⟩
  have HB : Below w.heap.size w W := by rw [hW]; exact nbel_alloc _ _
  have H := Lib.hid (h.below HB)
  have HX : Hid (W.rowIs w.heap.size 35 2 (rowN [.int .i64 x, .int .i64 y])) := by show W.rowIs _ _ _ _; rw [hW]; exact rowN_alloc w [.int .i64 x, .int .i64 y] _
  have HG := Lib.hid hg
  have hql := h.rq.lt
  have HPQ := Lib.hid h.num
  obtain ⟨⟨x0, x1⟩, _⟩ := rowN2 HX.out
  rw [hW] at x0 x1
  have HW := Lib.hid hW
  clear hW h hg HB
  go_enter Tryz.func43, Tryz.ntmps43
  go_wp2_with fail
  rw [← HW.out]
  clear HW x0 x1
  refine (evRight_any x y _).mono ?_
  rintro e V ⟨rfl, hb⟩
  replace H := Lib.hid (H.out.below hb)
  replace HX := Lib.hid (nrow_below HX.out hb)
  clear hb
  obtain ⟨⟨x0, x1⟩, _⟩ := rowN2 HX.out
  by_cases c : Ln.EvOk x y
  case neg =>
    rw [lB_ff c]
    have HC := Lib.hid c
    clear c
    go_wp2_with fail
    go_ret
    exact Or.inr ⟨HC.out, rfl, a, k, b, l, n, H.out⟩
  rw [lB_tt c]
  have HC := Lib.hid c
  clear c
  by_cases e1 : x = 1
  case neg =>
    have d1 : (x == 1) = false := by simpa using e1
    have HE2 : Hid (x = 2) := by rcases HC.out with h | h <;> first | omega | exact h.1
    clear e1
    go_wp2_with fail
    refine (wiPoll_any u p q s m a k b l n y w0 _ H.out hn hm HG.out).mono ?_
    rintro e V2 ⟨rfl, hE⟩
    go_wp2_with fail
    go_ret
    refine Or.inl ⟨HC.out, rfl, ?_⟩
    rw [HE2.out]
    exact hE
  have d1 : (x == 1) = true := by simpa using e1
  have HE1 := Lib.hid e1
  clear e1
  go_wp2_with fail
  refine wp_region_held_drew (S := fun Y => Y.rowIs q 66 5 (rowN (wiL u p m b l)) ∧ Y.rowIs w.heap.size 35 2 (rowN [.int .i64 x, .int .i64 y])) (by kernel_rfl) ⟨(H.out.below (Below.refl _ _).drew).rq, nrow_below HX.out (Below.refl _ _).drew⟩ (fun hHeld => ?_)
  have H5 := Lib.hid (H.out.below (Below.refl _ _).drew)
  clear H HX x0 x1
  generalize V.drew = V5 at hHeld H5 ⊢
  refine take_do (i := 0) (v := (.pointer (some ⟨q, 0, none⟩))) rfl (by kernel_rfl) (by kernel_rfl) (by kernel_rfl) (fun _ _ _ h => h) (by rfl) ?_ (by assumption) ?_
  · intro w hSw
    go_simp
  simp only [Act.put, List.setIfInBounds_toArray, List.set_cons_zero, List.set_cons_succ]
  refine take_do (i := 1) (v := (.pointer (some ⟨q, 0, none⟩))) rfl (by kernel_rfl) (by kernel_rfl) (by kernel_rfl) (fun _ _ _ h => h) (by rfl) ?_ (by assumption) ?_
  · intro w hSw
    go_simp
  simp only [Act.put, List.setIfInBounds_toArray, List.set_cons_zero, List.set_cons_succ]
  refine take_do (i := 2) (v := (.pointer (some ⟨q, 1, none⟩))) rfl (by kernel_rfl) (by kernel_rfl) (by kernel_rfl) (fun _ _ _ h => h) (by rfl) ?_ (by assumption) ?_
  · intro w hSw
    go_simp
  simp only [Act.put, List.setIfInBounds_toArray, List.set_cons_zero, List.set_cons_succ]
  refine take_do (i := 3) (v := (.pointer (some ⟨p, 0, none⟩))) rfl (by kernel_rfl) (by kernel_rfl) (by kernel_rfl) (fun _ _ _ h => h) (by rfl) ?_ (by assumption) ?_
  · intro w hSw
    obtain ⟨⟨x0, x1, x2, x3, x4⟩, _⟩ := rowN5l hSw.1
    go_simp
  simp only [Act.put, List.setIfInBounds_toArray, List.set_cons_zero, List.set_cons_succ]
  refine take_do (i := 4) (v := (.pointer (some ⟨w.heap.size, 1, none⟩))) rfl (by kernel_rfl) (by kernel_rfl) (by kernel_rfl) (fun _ _ _ h => h) (by rfl) ?_ (by assumption) ?_
  · intro w hSw
    go_simp
  simp only [Act.put, List.setIfInBounds_toArray, List.set_cons_zero, List.set_cons_succ]
  refine take_do (i := 5) (v := (.int .i64 y)) rfl (by kernel_rfl) (by kernel_rfl) (by kernel_rfl) (fun _ _ _ h => h) (by rfl) ?_ (by assumption) ?_
  · intro w hSw
    obtain ⟨⟨x0, x1⟩, _⟩ := rowN2 hSw.2
    go_simp
  simp only [Act.put, List.setIfInBounds_toArray, List.set_cons_zero, List.set_cons_succ]
  refine take_call (i := 6) rfl (by kernel_rfl) (fun K2 hK => ?_)
  go_simp
  refine (poNote_any s a k n y p _ H5.out.rp (H5.out.ts.low (by have := HPQ.out; omega)) hn).mono ?_
  rintro e V6 ⟨rfl, hE⟩
  obtain ⟨a6, k6, H6⟩ := H5.out.post hE
  obtain ⟨_, _, _, _, hO⟩ := hE
  have hx6 := hO.row (by have := HPQ.out; omega) hHeld.2
  have HH6 := Lib.hid H6
  clear H6 H5
  go_wp2_with fail
  refine hK.out _ _ ⟨HH6.out.rq, hx6⟩ (fun hHeld2 => ?_)
  clear hK hHeld hHeld2 hx6 hO
  refine wpAnyH_done (by kernel_rfl) ?_ _
  go_wp2_with fail
  go_ret
  refine Or.inl ⟨HC.out, rfl, ?_⟩
  rw [Ln.meet_value u s m HE1.out]
  exact ⟨a6, k6, b, l, n, HH6.out⟩
set_option maxRecDepth 100000 in
set_option maxHeartbeats 8000000 in
theorem newWire_any (u b : Int) (w : World) :
    Calls Tryz.prog 42 #[.int .i64 u, .int .i64 b] w fun e W' => (Ln.Fit u b ∧ ∃ p q, e = .returned (.tuple #[.pointer (some ⟨q, 0, none⟩), .nilIface]) ∧ WiS u p q (Ln.S.new u b) Ln.M.new none 0 none 0 0 w W') ∨ (¬ Ln.Fit u b ∧ (∃ t, e = .returned (.tuple #[.pointer none, errV t 1])) ∧ Below w.heap.size w W') := by
  obtain ⟨W, hW⟩ : ∃ W, W = w.alloc (.cells #[.int .i64 u, .int .i64 b, .bool false, .int .i64 0, .int .i64 1, .slice none 0 0, .int .i64 0] 28) := ⟨_, rfl⟩
  have HB : Hid (Below w.heap.size w W) := by show Below _ _ _; rw [hW]; exact nbel_alloc _ _
  have HX : Hid (W.rowIs w.heap.size 28 7 (rowN [.int .i64 u, .int .i64 b, .bool false, .int .i64 0, .int .i64 1, .slice none 0 0, .int .i64 0])) := by show W.rowIs _ _ _ _; rw [hW]; exact rowN_alloc w [.int .i64 u, .int .i64 b, .bool false, .int .i64 0, .int .i64 1, .slice none 0 0, .int .i64 0] _
  obtain ⟨⟨x0, x1, x2, x3, x4, x5, x6⟩, _⟩ := rowN7 HX.out
  rw [hW] at x0 x1 x2 x3 x4 x5 x6
  have HW := Lib.hid hW
  clear hW
  go_enter Tryz.func42, Tryz.ntmps42
  go_wp2_with fail
  rw [← HW.out]
  clear HW x0 x1 x2 x3 x4 x5 x6
  refine (implSRight_any (Ln.S.new u b) none 0 _ (Or.inl rfl) (by show (0 : Nat) ≤ _; omega)).mono ?_
  rintro e V ⟨rfl, hb⟩
  replace HX := Lib.hid (nrow_below HX.out hb)
  replace HB : Hid (Below w.heap.size w V) := HB.out.trans (hb.mono HB.out.size)
  clear hb
  by_cases c : Ln.Fit u b
  case neg =>
    rw [lB_ff (fun h => c (Ln.new_right.1 h))]
    go_wp2_with fail
    go_ret2
    exact Or.inr ⟨c, ⟨_, rfl⟩, HB.out⟩
  rw [lB_tt (Ln.new_right.2 c)]
  obtain ⟨⟨x0, x1, x2, x3, x4, x5, x6⟩, _⟩ := rowN7 HX.out
  go_wp2_with fail
  go_ret2
  refine Or.inl ⟨c, V.heap.size, V.heap.size + 1, ?_, ?_⟩
  · simp
  obtain ⟨V1, hV1⟩ : ∃ V1, V1 = V.alloc (.cells #[.int .i32 0, .int .u32 0, .int .i64 u, .int .i64 b, .bool false, .int .i64 0, .int .i64 1, .slice none 0 0, .int .i64 0, .int .i64 0] 107) := ⟨_, rfl⟩
  have r1 : V1.rowIs V.heap.size 107 10 (rowN (poL 0 (Ln.S.new u b) none 0 0)) := by rw [hV1]; exact rowN_alloc V [.int .i32 0, .int .u32 0, .int .i64 u, .int .i64 b, .bool false, .int .i64 0, .int .i64 1, .slice none 0 0, .int .i64 0, .int .i64 0] _
  have s1 : V1.heap.size = V.heap.size + 1 := by rw [hV1]; simp
  have b1 : Below w.heap.size w V1 := by rw [hV1]; exact HB.out.trans ((nbel_alloc _ _).mono HB.out.size)
  rw [← hV1]
  exact ⟨nrow_below r1 (nbel_alloc _ _), rowN_alloc' s1 (wiL u V.heap.size Ln.M.new none 0) _, Or.inl rfl, Or.inl rfl, fun _ _ _ _ h => absurd rfl h, ⟨HB.out.size, by omega⟩, b1.trans ((nbel_alloc _ _).mono b1.size), by unfold Nb; omega⟩
end Go.Proofs.YtighcbpcclifoaaGreatDoor
namespace Go.Proofs.YtighcbpcclifoaaGreatDoor
open Go.RowKit Go.Deep

theorem lnItoa_any (k : Nat) (hk : k < 100000) (w : World) (ht : TabOk w) : Calls Tryz.prog 46 #[.int .i64 k] w fun e w' => (∃ s, e = .returned (.string s) ∧ s.size ≤ 200) ∧ Below w.heap.size w w' :=
  (Tryz.strconv_Itoa (k : Int) (by omega) (by omega) w ht).mono fun _ _ ⟨he, q, os, hw⟩ => ⟨⟨_, he, by have := Lib.itoa_length_le (k : Int) (by omega) (by omega); simp [ByteArray.size]; omega⟩, by rw [hw]; exact Lib.below_grow _ w (Nat.le_refl _) q os⟩
theorem lnFmt_any (n : Int) (hn : Nb n) (w : World) (ht : TabOk w) : Calls Tryz.prog 44 #[.int .i64 n, .int .i64 10] w fun e w' => (∃ s, e = .returned (.string s) ∧ s.size ≤ 200) ∧ Below w.heap.size w w' :=
  (Tryz.strconv_FormatInt_10 n hn.1 hn.2 w ht).mono fun _ _ ⟨he, q, os, hw⟩ => ⟨⟨_, he, by have := Lib.itoa_length_le n hn.1 hn.2; simp [ByteArray.size]; omega⟩, by rw [hw]; exact Lib.below_grow _ w (Nat.le_refl _) q os⟩
def RlEnd (u b : Int) (f : Nat → Int) (n : Nat) (e : Ending) (w W : World) : Prop :=
  (n ≤ 200 ∧ Ln.Fit u b ∧ Ln.EvsOk f n ∧ ∃ p q, e = .returned (.tuple #[.pointer (some ⟨q, 0, none⟩), .nilIface]) ∧ WiEnd u p q (Ln.run u b f n) w W) ∨
  (∃ t c, e = .returned (.tuple #[.pointer none, errV t c]) ∧ ((200 < n ∧ c = 2) ∨ (n ≤ 200 ∧ ¬ (Ln.Fit u b ∧ Ln.EvsOk f n) ∧ c = 1)) ∧ Below w.heap.size w W)
set_option maxRecDepth 100000 in
set_option maxHeartbeats 8000000 in
theorem runLink_any (u b : Int) (ea : Option Addr) (n ec : Nat) (f : Nat → Int) (w : World) (h : IsIn ea (n * 2) f w) (hg : LnG w) :
    Calls Tryz.prog 24 #[.int .i64 u, .int .i64 b, .slice ea n ec] w fun e W' => RlEnd u b f n e w W' := by
  have H := Lib.hid h
  have HG := Lib.hid hg
  clear h hg
  go_enter Tryz.func24, Tryz.ntmps24
  by_cases k0 : (200 : Int) < (n : Int)
  · go_wp2_with fail
    go_ret2
    exact Or.inr ⟨_, _, rfl, Or.inl ⟨by omega, rfl⟩, Below.refl _ _⟩
  have hn : n ≤ 200 := by omega
  go_wp2_with fail
  refine (newWire_any u b _).mono ?_
  rintro e V (⟨hf, p, q, rfl, hS⟩ | ⟨hf, ⟨t, rfl⟩, hb⟩)
  case inr =>
    go_wp2_with fail
    go_ret2
    exact Or.inr ⟨t, 1, rfl, Or.inr ⟨hn, fun h => hf h.1, rfl⟩, hb⟩
  have HF := Lib.hid hf
  have HS := Lib.hid hS
  clear hf hS
  go_wp2_with fail
  go_loopw [10, 11, 12, 13, 32] (fun _ _ _ _ iv wr => ∃ (i : Nat), i ≤ n ∧ iv = .int .i64 i ∧ Hid (Ln.EvsOk f i) ∧ Hid (WiEnd u p q (Ln.run u b f i) w wr)) (fun _ _ _ _ iv _ => n - (intOf iv).toNat)
  case atStart => exact ⟨0, Nat.zero_le _, rfl, Ln.EvsOk.zero f, ⟨none, 0, none, 0, 0, HS.out⟩⟩
  case round =>
    obtain ⟨i, hin, rfl, hok, hE⟩ := hrel
    by_cases hlt : i < n
    · have hltz : (i : Int) < (n : Int) := by omega
      obtain ⟨a, k, b', l, m', hW⟩ := hE.out
      obtain ⟨S, M, hSM⟩ : ∃ S M, Ln.run u b f i = (S, M) := ⟨_, _, rfl⟩
      have HL := Ln.run_len u b f i
      rw [hSM] at hW HL
      have HW : Hid (WiS u p q S M a k b' l m' w wr) := hW
      have hl1 : Hid (S.wait.length ≤ 1048576) := HL.1
      have hl2 : Hid (M.notes.length ≤ 1048576) := HL.2
      have HR : Hid (Ln.run u b f (i + 1) = Ln.meet u (S, M) (f (i * 2)) (f (i * 2 + 1))) := Ln.run_at hSM
      clear hE hW HL hSM
      obtain ⟨g, o, hea, c0, c1⟩ := (H.out.below HW.out.bel).at2 hlt
      obtain ⟨x, hx⟩ : ∃ x, x = f (i * 2) := ⟨_, rfl⟩
      obtain ⟨y, hy⟩ : ∃ y, y = f (i * 2 + 1) := ⟨_, rfl⟩
      have HX := Lib.hid hx
      have HY := Lib.hid hy
      rw [← hx] at c0
      rw [← hy] at c1
      clear hx hy
      have HEA := Lib.hid hea
      subst hea
      obtain ⟨V1, hV1⟩ : ∃ V1, V1 = wr.alloc (.cells #[.int .i64 x, .int .i64 y] 35) := ⟨_, rfl⟩
      have H1 : Hid (WiS u p q S M a k b' l m' w V1) := by show WiS _ _ _ _ _ _ _ _ _ _ _ _; rw [hV1]; exact HW.out.below (nbel_alloc _ _)
      have X1 : Hid (V1.rowIs wr.heap.size 35 2 (rowN [.int .i64 x, .int .i64 y])) := by show V1.rowIs _ _ _ _; rw [hV1]; exact rowN_alloc wr [.int .i64 x, .int .i64 y] _
      obtain ⟨⟨x0, x1⟩, _⟩ := rowN2 X1.out
      have HV1 := Lib.hid hV1
      rw [hV1] at x0 x1
      clear hV1
      go_wp2_with fail
      rw [← HV1.out]
      clear HV1 x0 x1 c0 c1
      refine (wiMeet_any u p q S M a k b' l m' x y w _ H1.out hl1.out hl2.out HG.out).mono ?_
      rintro e V2 (⟨hev, rfl, hE⟩ | ⟨hev, rfl, hE⟩)
      · go_wp2_with fail
        go_roundw
        case rel => exact ⟨i + 1, by omega, by go_num, hok.out.step (by rw [← HX.out, ← HY.out]; exact hev), by show WiEnd _ _ _ _ _ _; rw [HR.out, ← HX.out, ← HY.out]; exact hE⟩
        case measure => simp [intOf]; omega
      have HEV : Hid (¬ (Ln.Fit u b ∧ Ln.EvsOk f n)) := fun h => hev (by rw [HX.out, HY.out]; exact h.2 i hlt)
      clear hev H1 X1
      obtain ⟨a2, k2, b2, l2, m2, hW2⟩ := hE
      have H2 : Hid (WiS u p q S M a2 k2 b2 l2 m2 w V2) := hW2
      clear hW2
      obtain ⟨⟨z0, z1, z2, z3, z4⟩, _⟩ := rowN5l H2.out.rq
      have c9 : V2.cell? ⟨p, 9, none⟩ = some (.int .i64 m2) := (rowN10 H2.out.rp).1.2.2.2.2.2.2.2.2.2
      go_wp2_with fail
      refine (at64_load p 9 m2 _ c9).mono ?_
      rintro e w' ⟨rfl, rfl⟩
      clear c9 z0 z1 z2 z3 z4
      go_wp2_with fail
      refine (lnFmt_any m2 H2.out.nb _ (HG.out.below H2.out.bel).tab).mono ?_
      rintro e V3 ⟨⟨t3, rfl, ht3⟩, hb3⟩
      have B3 : Hid (Below w.heap.size w V3) := H2.out.bel.trans (hb3.mono H2.out.bel.size)
      clear hb3 H2
      go_wp2_with fail
      refine (lnItoa_any i (by omega) _ (HG.out.below B3.out).tab).mono ?_
      rintro e V4 ⟨⟨t4, rfl, ht4⟩, hb4⟩
      have B4 : Hid (Below w.heap.size w V4) := B3.out.trans (hb4.mono B3.out.size)
      clear hb4 B3
      go_wp2_with fail
      go_ret2
      exact Or.inr ⟨_, 1, rfl, Or.inr ⟨hn, HEV.out, rfl⟩, B4.out⟩
    · obtain rfl : i = n := by omega
      go_wp2_with fail
      go_ret2
      exact Or.inl ⟨hn, HF.out, hok.out, p, q, rfl, hE.out⟩
end Go.Proofs.YtighcbpcclifoaaGreatDoor
namespace Go.Proofs.YtighcbpcclifoaaGreatDoor
open Go.RowKit Go.Deep

set_option maxRecDepth 100000 in
set_option maxHeartbeats 8000000 in
theorem implRun_any (u b : Int) (ea : Option Addr) (n ec : Nat) (f : Nat → Int) (w : World) (h : IsIn ea (n * 2) f w) (hg : LnG w) :
    Calls Tryz.prog 8 #[.int .i64 u, .int .i64 b, .slice ea n ec] w fun e W' => LoEnd (Ln.lst u b f n) (Ln.lma u b f n) (Ln.lcode u b f n) w.heap.size e W' ∧ Below w.heap.size w W' := by
  obtain ⟨W, hW⟩ : ∃ W, W = w.alloc (.cells #[.int .i64 0, .int .i64 0, .bool false, .int .i64 0, .int .i64 0, .slice none 0 0, .int .i64 0, .int .i64 0, .slice none 0 0, .int .i64 0, .int .i64 0] 32) := ⟨_, rfl⟩
  have hb0 : Below w.heap.size w W := by rw [hW]; exact nbel_alloc _ _
  have HB : Hid (Below w.heap.size w W) := hb0
  have HY : Hid (W.rowIs w.heap.size 32 11 (rowN loZ)) := by show W.rowIs _ _ _ _; rw [hW]; exact rowN_alloc w loZ _
  have hsz : W.heap.size = w.heap.size + 1 := by rw [hW]; simp
  have H := Lib.hid (h.below hb0)
  have HG := Lib.hid (hg.below hb0)
  have HW := Lib.hid hW
  clear h hg hW hb0
  go_enter Tryz.func8, Tryz.ntmps8
  go_wp2_with fail
  rw [← HW.out]
  clear HW
  refine (runLink_any u b ea n ec f _ H.out HG.out).mono ?_
  rintro e V (⟨hn, hf, hv, p, q, rfl, a, k, m', l, n', hS⟩ | ⟨t, c, rfl, hc, hb⟩)
  case inr =>
    have HE : Hid (Ln.lcode u b f n = c ∧ Ln.lst u b f n = Ln.S.zero ∧ Ln.lma u b f n = Ln.M.new) := by
      rcases hc with ⟨h1, h2⟩ | ⟨h1, h2, h3⟩
      · rw [h2]; exact Ln.lout_big h1
      · rw [h3]; exact Ln.lout_no h1 h2
    have HYV := Lib.hid (nrow_below HY.out hb)
    have HBV : Hid (Below w.heap.size w V) := HB.out.trans (hb.mono HB.out.size)
    have HGV := Lib.hid (HG.out.below hb)
    clear hb hc HY HB HG
    go_wp2_with fail
    refine (codeOf_errV t c _ HGV.out.typ).mono ?_
    rintro e V2 ⟨rfl, hb⟩
    have HY2 := Lib.hid (nrow_below HYV.out hb)
    have HB2 : Hid (Below w.heap.size w V2) := HBV.out.trans (hb.mono HBV.out.size)
    clear hb HYV HBV HGV
    obtain ⟨⟨y0, y1, y2, y3, y4, y5, y6, y7, y8, y9, y10⟩, g0, g1, g2, g3, g4, g5, g6, g7, g8, g9, g10⟩ := rowN11 HY2.out
    have hl0 := HY2.out.lt
    have zr := Lib.hid (lput11 HY2.out rfl (.int .i64 0) (.int .i64 0) (.bool false) (.int .i64 0) (.int .i64 0) (.slice none 0 0) (.int .i64 0) (.int .i64 0) (.slice none 0 0) (.int .i64 0) (.int .i64 c))
    have zb := Lib.hid (lbel11 HB2.out (Nat.le_refl _) (.int .i64 0) (.int .i64 0) (.bool false) (.int .i64 0) (.int .i64 0) (.slice none 0 0) (.int .i64 0) (.int .i64 0) (.slice none 0 0) (.int .i64 0) (.int .i64 c))
    go_wp2_with fail
    refine bodyPost_ret (v := loV Ln.S.zero Ln.M.new none 0 none 0 c) ?_ rfl ⟨by rw [HE.out.1, HE.out.2.1, HE.out.2.2]; exact LoEnd.zero c _ _, zb.out⟩
    obtain ⟨⟨t0, t1, t2, t3, t4, t5, t6, t7, t8, t9, t10⟩, _⟩ := rowN11 zr.out
    clear y0 y1 y2 y3 y4 y5 y6 y7 y8 y9 y10 g0 g1 g2 g3 g4 g5 g6 g7 g8 g9 g10
    simp only [results, Tryz.results8]
    simp [go_sem, t0, t1, t2, t3, t4, t5, t6, t7, t8, t9, t10, loV, Ln.S.zero, Ln.M.new]
  have hE1 := Ln.lout_yes hn hf hv
  obtain ⟨S, M, hSM⟩ : ∃ S M, Ln.run u b f n = (S, M) := ⟨_, _, rfl⟩
  rw [hSM] at hS hE1
  have HE : Hid (Ln.lcode u b f n = 0 ∧ Ln.lst u b f n = S ∧ Ln.lma u b f n = M) := hE1
  have HS : Hid (WiS u p q S M a k m' l n' W V) := hS
  have HYV := Lib.hid (nrow_below HY.out HS.out.bel)
  have HBV : Hid (Below w.heap.size w V) := HB.out.trans (HS.out.bel.mono HB.out.size)
  have HPQ := Lib.hid HS.out.num
  clear hE1 hS hSM hn hf hv HY HB HG
  go_wp2_with fail
  refine wp_region_held_drew (S := fun Y => Y.rowIs q 66 5 (rowN (wiL u p M m' l))) (by kernel_rfl) (HS.out.below (Below.refl _ _).drew).rq (fun hHeld => ?_)
  have H5 := Lib.hid (HS.out.below (Below.refl _ _).drew)
  have HY5 := Lib.hid (nrow_below HYV.out (Below.refl _ _).drew)
  have HB5 : Hid (Below w.heap.size w V.drew) := HBV.out.trans ((Below.refl _ _).drew.mono HBV.out.size)
  clear HS HYV HBV
  generalize V.drew = V5 at hHeld H5 HY5 HB5 ⊢
  refine take_do (i := 0) (v := (.pointer (some ⟨q, 0, none⟩))) rfl (by kernel_rfl) (by kernel_rfl) (by kernel_rfl) (fun _ _ _ h => h) (by rfl) ?_ (by assumption) ?_
  · intro w hSw
    go_simp
  simp only [Act.put, List.setIfInBounds_toArray, List.set_cons_zero, List.set_cons_succ]
  refine take_do (i := 1) (v := (.pointer (some ⟨q, 0, none⟩))) rfl (by kernel_rfl) (by kernel_rfl) (by kernel_rfl) (fun _ _ _ h => h) (by rfl) ?_ (by assumption) ?_
  · intro w hSw
    go_simp
  simp only [Act.put, List.setIfInBounds_toArray, List.set_cons_zero, List.set_cons_succ]
  refine take_do (i := 2) (v := (.pointer (some ⟨q, 1, none⟩))) rfl (by kernel_rfl) (by kernel_rfl) (by kernel_rfl) (fun _ _ _ h => h) (by rfl) ?_ (by assumption) ?_
  · intro w hSw
    go_simp
  simp only [Act.put, List.setIfInBounds_toArray, List.set_cons_zero, List.set_cons_succ]
  refine take_do (i := 3) (v := (.pointer (some ⟨p, 0, none⟩))) rfl (by kernel_rfl) (by kernel_rfl) (by kernel_rfl) (fun _ _ _ h => h) (by rfl) ?_ (by assumption) ?_
  · intro w hSw
    obtain ⟨⟨x0, x1, x2, x3, x4⟩, _⟩ := rowN5l hSw
    go_simp
  simp only [Act.put, List.setIfInBounds_toArray, List.set_cons_zero, List.set_cons_succ]
  refine take_do (i := 5) (v := (.pointer (some ⟨q, 0, none⟩))) rfl (by kernel_rfl) (by kernel_rfl) (by kernel_rfl) (fun _ _ _ h => h) (by rfl) ?_ (by assumption) ?_
  · intro w hSw
    go_simp
  simp only [Act.put, List.setIfInBounds_toArray, List.set_cons_zero, List.set_cons_succ]
  refine take_do (i := 6) (v := (.pointer (some ⟨q, 0, none⟩))) rfl (by kernel_rfl) (by kernel_rfl) (by kernel_rfl) (fun _ _ _ h => h) (by rfl) ?_ (by assumption) ?_
  · intro w hSw
    go_simp
  simp only [Act.put, List.setIfInBounds_toArray, List.set_cons_zero, List.set_cons_succ]
  refine take_do (i := 7) (v := (.pointer (some ⟨q, 2, none⟩))) rfl (by kernel_rfl) (by kernel_rfl) (by kernel_rfl) (fun _ _ _ h => h) (by rfl) ?_ (by assumption) ?_
  · intro w hSw
    go_simp
  simp only [Act.put, List.setIfInBounds_toArray, List.set_cons_zero, List.set_cons_succ]
  refine take_do (i := 8) (v := (maV M m' l)) rfl (by kernel_rfl) (by kernel_rfl) (by kernel_rfl) (fun _ _ _ h => h) (by rfl) ?_ (by assumption) ?_
  · intro w hSw
    obtain ⟨⟨x0, x1, x2, x3, x4⟩, _⟩ := rowN5l hSw
    go_simp
  simp only [Act.put, List.setIfInBounds_toArray, List.set_cons_zero, List.set_cons_succ]
  refine take_call (i := 4) rfl (by kernel_rfl) (fun K2 hK => ?_)
  go_simp
  refine (poStation_any S a k n' p _ H5.out.rp).mono ?_
  rintro e V6 ⟨rfl, hO⟩
  have hp := HPQ.out
  have hy5 := HY5.out.lt
  have H6 : Hid (V6.rowIs q 66 5 (rowN (wiL u p M m' l))) := hO.row (by omega) hHeld
  have HY6 : Hid (V6.rowIs w.heap.size 32 11 (rowN loZ)) := hO.row (by omega) HY5.out
  have HB6 : Hid (Below w.heap.size w V6) := hO.bel HB5.out (by omega) HB5.out.size
  have T1 : Hid (NqOwn 37 (q + 1) S.wait.length a (Ln.fl S.wait) V6) := hO.own (by omega) H5.out.ts
  have T2 : Hid (NqOwn 37 (q + 1) M.notes.length m' (Ln.fl M.notes) V6) := hO.own (by omega) H5.out.tm
  have DJ := Lib.hid H5.out.dj
  go_wp2_with fail
  refine hK.out _ _ H6.out (fun hHeld2 => ?_)
  clear hK hHeld hO HY5 HB5 H5
  have hHeld := hHeld2
  clear hHeld2
  refine take_do (i := 9) (v := (loV S M a k m' l 0)) rfl (by kernel_rfl) (by kernel_rfl) (by kernel_rfl) (fun _ _ _ h => h) (by rfl) ?_ (by assumption) ?_
  · intro w hSw
    go_simp
  simp only [Act.put, List.setIfInBounds_toArray, List.set_cons_zero, List.set_cons_succ]
  obtain ⟨⟨y0, y1, y2, y3, y4, y5, y6, y7, y8, y9, y10⟩, g0, g1, g2, g3, g4, g5, g6, g7, g8, g9, g10⟩ := rowN11 HY6.out
  have hl0 := HY6.out.lt
  have zr := Lib.hid (lput11 HY6.out rfl (.int .i64 S.unit) (.int .i64 S.band) (.bool S.seen) (.int .i64 S.last) (.int .i64 S.next) (.slice a S.wait.length k) (.int .i64 S.drops) (.int .i64 M.seq) (.slice m' M.notes.length l) (.int .i64 M.gaps) (.int .i64 0))
  have zb := Lib.hid (lbel11 HB6.out (Nat.le_refl _) (.int .i64 S.unit) (.int .i64 S.band) (.bool S.seen) (.int .i64 S.last) (.int .i64 S.next) (.slice a S.wait.length k) (.int .i64 S.drops) (.int .i64 M.seq) (.slice m' M.notes.length l) (.int .i64 M.gaps) (.int .i64 0))
  have zq : Hid ((((((((((((V6.setCell ⟨w.heap.size, 0, none⟩ (.int .i64 S.unit)).setCell ⟨w.heap.size, 1, none⟩ (.int .i64 S.band)).setCell ⟨w.heap.size, 2, none⟩ (.bool S.seen)).setCell ⟨w.heap.size, 3, none⟩ (.int .i64 S.last)).setCell ⟨w.heap.size, 4, none⟩ (.int .i64 S.next)).setCell ⟨w.heap.size, 5, none⟩ (.slice a S.wait.length k)).setCell ⟨w.heap.size, 6, none⟩ (.int .i64 S.drops)).setCell ⟨w.heap.size, 7, none⟩ (.int .i64 M.seq)).setCell ⟨w.heap.size, 8, none⟩ (.slice m' M.notes.length l)).setCell ⟨w.heap.size, 9, none⟩ (.int .i64 M.gaps)).setCell ⟨w.heap.size, 10, none⟩ (.int .i64 0)).rowIs q 66 5 (rowN (wiL u p M m' l))) := H6.out.of_block (lblk11 (by omega) (.int .i64 S.unit) (.int .i64 S.band) (.bool S.seen) (.int .i64 S.last) (.int .i64 S.next) (.slice a S.wait.length k) (.int .i64 S.drops) (.int .i64 M.seq) (.slice m' M.notes.length l) (.int .i64 M.gaps) (.int .i64 0))
  have z1 : Hid (NqOwn 37 (q + 1) S.wait.length a (Ln.fl S.wait) (((((((((((V6.setCell ⟨w.heap.size, 0, none⟩ (.int .i64 S.unit)).setCell ⟨w.heap.size, 1, none⟩ (.int .i64 S.band)).setCell ⟨w.heap.size, 2, none⟩ (.bool S.seen)).setCell ⟨w.heap.size, 3, none⟩ (.int .i64 S.last)).setCell ⟨w.heap.size, 4, none⟩ (.int .i64 S.next)).setCell ⟨w.heap.size, 5, none⟩ (.slice a S.wait.length k)).setCell ⟨w.heap.size, 6, none⟩ (.int .i64 S.drops)).setCell ⟨w.heap.size, 7, none⟩ (.int .i64 M.seq)).setCell ⟨w.heap.size, 8, none⟩ (.slice m' M.notes.length l)).setCell ⟨w.heap.size, 9, none⟩ (.int .i64 M.gaps)).setCell ⟨w.heap.size, 10, none⟩ (.int .i64 0))) := T1.out.same (fun zz hz _ => lblk11 (by omega) (.int .i64 S.unit) (.int .i64 S.band) (.bool S.seen) (.int .i64 S.last) (.int .i64 S.next) (.slice a S.wait.length k) (.int .i64 S.drops) (.int .i64 M.seq) (.slice m' M.notes.length l) (.int .i64 M.gaps) (.int .i64 0))
  have z2 : Hid (NqOwn 37 (q + 1) M.notes.length m' (Ln.fl M.notes) (((((((((((V6.setCell ⟨w.heap.size, 0, none⟩ (.int .i64 S.unit)).setCell ⟨w.heap.size, 1, none⟩ (.int .i64 S.band)).setCell ⟨w.heap.size, 2, none⟩ (.bool S.seen)).setCell ⟨w.heap.size, 3, none⟩ (.int .i64 S.last)).setCell ⟨w.heap.size, 4, none⟩ (.int .i64 S.next)).setCell ⟨w.heap.size, 5, none⟩ (.slice a S.wait.length k)).setCell ⟨w.heap.size, 6, none⟩ (.int .i64 S.drops)).setCell ⟨w.heap.size, 7, none⟩ (.int .i64 M.seq)).setCell ⟨w.heap.size, 8, none⟩ (.slice m' M.notes.length l)).setCell ⟨w.heap.size, 9, none⟩ (.int .i64 M.gaps)).setCell ⟨w.heap.size, 10, none⟩ (.int .i64 0))) := T2.out.same (fun zz hz _ => lblk11 (by omega) (.int .i64 S.unit) (.int .i64 S.band) (.bool S.seen) (.int .i64 S.last) (.int .i64 S.next) (.slice a S.wait.length k) (.int .i64 S.drops) (.int .i64 M.seq) (.slice m' M.notes.length l) (.int .i64 M.gaps) (.int .i64 0))
  refine take_call (i := 10) rfl (by kernel_rfl) (fun K2 hK => ?_)
  go_simp
  refine hK.out _ _ zq.out (fun hHeld2 => ?_)
  clear hK hHeld hHeld2 H6 HY6 HB6 T1 T2 y0 y1 y2 y3 y4 y5 y6 y7 y8 y9 y10 g0 g1 g2 g3 g4 g5 g6 g7 g8 g9 g10
  refine wpAnyH_done (by kernel_rfl) ?_ _
  go_wp2_with fail
  refine bodyPost_ret (v := loV S M a k m' l 0) ?_ rfl ⟨by rw [HE.out.1, HE.out.2.1, HE.out.2.2]; exact ⟨a, k, m', l, rfl, z1.out.low (by omega), z2.out.low (by omega), DJ.out⟩, zb.out⟩
  obtain ⟨⟨t0, t1, t2, t3, t4, t5, t6, t7, t8, t9, t10⟩, _⟩ := rowN11 zr.out
  simp only [results, Tryz.results8]
  simp [go_sem, t0, t1, t2, t3, t4, t5, t6, t7, t8, t9, t10, loV]
end Go.Proofs.YtighcbpcclifoaaGreatDoor
namespace Go.Proofs.YtighcbpcclifoaaGreatDoor
open Go.RowKit Go.Deep

theorem ninfo_Event : (Tryz.prog.info? 35).map (fun i => (i.zero, i.size, i.bytes)) = some (some (.agg #[.int .i64 0, .int .i64 0]), 2, 16) := by kernel_rfl
theorem nmk_Event (n : Nat) (hn : n ≤ 1048576) (w : World) : (Instr.makeSlice 23 (.int .i64 (n : Int)) (.int .i64 (n : Int))).run Tryz.prog w = .ok (.slice (some ⟨w.heap.size, 0, none⟩) n n) (w.alloc (.cells (madeCells #[.int .i64 0, .int .i64 0] (n * 2)) 35)) := by
  obtain ⟨i0, hi, hz0, hz1, hz2⟩ := info_parts ninfo_Event
  have := run_make (P := Tryz.prog) w 23 35 i0 _ Tryz.underlying23 hi hz0 .i64 .i64 n n (by omega) (Int.le_refl _) (by rw [hz2]; omega) (by omega)
  rw [hz1] at this
  simp only [Int.toNat_natCast] at this
  exact this
set_option maxRecDepth 100000 in
set_option maxHeartbeats 1000000 in
theorem ntoEvent_any (x0 x1 : Int) (w : World) :
    Calls Tryz.prog 27 #[.agg #[.int .i64 x0, .int .i64 x1]] w fun e w' => e = .returned (.agg #[.int .i64 x0, .int .i64 x1]) ∧ Below w.heap.size w w' := by
  go_enter Tryz.func27, Tryz.ntmps27
  go_wp2_with fail
  exact bodyPost_ret (v := .agg #[.int .i64 x0, .int .i64 x1]) (by simp [results, Tryz.results27, go_sem]) rfl ⟨rfl, (((Below.refl _ _).alloc (Nat.le_refl _) _).alloc (by simp) _).alloc (by simp <;> omega) _⟩
set_option maxRecDepth 100000 in
set_option maxHeartbeats 2000000 in
theorem ntoEventS_any (a : Option Addr) (n cap : Nat) (f : Nat → Int) (w : World) (h : IsIn a (n * 2) f w) (hn : n ≤ 1048576) :
    Calls Tryz.prog 10 #[.slice a n cap] w fun e w' => (e = .returned (.slice (some ⟨w.heap.size, 0, none⟩) n n) ∧ IsBlk 35 w.heap.size (n * 2) f w') ∧ Below w.heap.size w w' := by
  have hmk := nmk_Event n hn
  have H := Lib.hid h
  have HST : Hid (IsPart 35 w.heap.size (n * 2) (0 * 2) f (w.alloc (.cells (madeCells #[.int .i64 0, .int .i64 0] (n * 2)) 35))) := ⟨_, made_is _ _ w _ (by intro i hi; simp at hi; have : i = 0 ∨ i = 1 := (by omega); rcases this with rfl | rfl <;> rfl) (by simp), fun j hj => absurd hj (by omega)⟩
  clear h
  go_enter Tryz.func10, Tryz.ntmps10
  go_wp2_with fail
  clear hmk
  go_loopw [4] (fun iv wr => ∃ (i : Nat), i ≤ n ∧ iv = .int .i64 i ∧ Hid (IsPart 35 w.heap.size (n * 2) (i * 2) f wr) ∧ Hid (Below w.heap.size w wr)) (fun iv _ => n - (intOf iv).toNat)
  case atStart => exact ⟨0, Nat.zero_le _, rfl, HST, (Below.refl _ _).alloc (Nat.le_refl _) _⟩
  case round =>
    obtain ⟨i, hi, rfl, hP, hB⟩ := hrel
    clear HST
    by_cases hlt : i < n
    · have hltz : (i : Int) < (n : Int) := by omega
      obtain ⟨b, o, rfl, c0, c1⟩ := (H.out.below hB.out).at2 hlt
      go_wp2_with fail
      refine (ntoEvent_any (f (i * 2)) (f (i * 2 + 1)) _).mono ?_
      rintro e w1 ⟨rfl, hb⟩
      have hP1 := hP.out.block (hb.block _ hP.out.lt)
      have HB1 : Hid (Below w.heap.size w w1) := hB.out.trans (hb.mono hB.out.size)
      have HP2 := Lib.hid (((hP1.put (f (i * 2)) rfl).put (f (i * 2 + 1)) rfl))
      obtain ⟨v0, y0⟩ := hP1.cell (j := i * 2) (by omega)
      have z0 := hP1.frozen (i * 2)
      obtain ⟨v1, y1⟩ := hP1.cell (j := i * 2 + 1) (by omega)
      have z1 := hP1.frozen (i * 2 + 1)
      have hz : w.heap.size < w1.heap.size := hP1.lt
      clear hP1 hb hP hB c0 c1
      go_wp2_with fail
      go_roundw
      case rel => exact ⟨i + 1, by omega, by go_num, by rw [Nat.succ_mul]; exact HP2, ((HB1.out.setCell (p := ⟨w.heap.size, _, none⟩) (Nat.le_refl _) _).setCell (p := ⟨w.heap.size, _, none⟩) (Nat.le_refl _) _)⟩
      case measure => simp [intOf]; omega
    · obtain rfl : i = n := by omega
      go_wp2_with fail
      go_ret
      exact ⟨⟨rfl, hP.out.full (Nat.le_refl _)⟩, hB.out⟩
theorem nszEvent_in (a : Option Addr) (n cap : Nat) (l : Nat) (w : World) (hn : n ≤ l) (hl : l ≤ 1048576) :
    Calls Tryz.prog 9 #[.slice a n cap, .int .i64 l] w fun e w' => e = .returned (.int .i64 ((l - n : Nat) : Int)) ∧ w' = w := by
  have h1 : ¬ ((l : Int) - (n : Int)) < 0 := by omega
  have h2 : ((l : Int) - (n : Int)) = ((l - n : Nat) : Int) := by omega
  have h3 : ¬ (((l - n : Nat) : Int)) < 0 := by omega
  have h4 : ((l - n : Nat) : Int) ≤ 1048576 := by omega
  have h5 : 0 ≤ ((l - n : Nat) : Int) := by omega
  have h6 : (n : Int) ≤ 1048576 := by omega
  have h7 : (l : Int) ≤ 1048576 := by omega
  go_enter Tryz.func9, Tryz.ntmps9
  go_wp2_with fail
  go_ret
  exact ⟨ret_int (by omega), rfl⟩
theorem nszEvent_over (a : Option Addr) (n cap : Nat) (l : Nat) (w : World) (hn : l < n) (hl : l ≤ 1048576) (hm : n ≤ 9223372036854775807) :
    Calls Tryz.prog 9 #[.slice a n cap, .int .i64 l] w fun e w' => e = .returned (.int .i64 (-1)) ∧ w' = w := by
  have h1 : ((l : Int) - (n : Int)) < 0 := by omega
  have h7 : (l : Int) ≤ 1048576 := by omega
  have h8 : (n : Int) ≤ 9223372036854775807 := by omega
  go_enter Tryz.func9, Tryz.ntmps9
  go_wp2_with fail
  go_ret
  exact ⟨rfl, rfl⟩
/-- What a round of the comparison reads. -/
def EqSEvent (w : World) (b1 b2 i : Nat) (f : Nat → Int) (W : World) : Prop := (W.cell? ⟨b1, i * 2, none⟩ = some (.int .i64 (f (i * 2))) ∧ W.cell? ⟨b1, i * 2 + 1, none⟩ = some (.int .i64 (f (i * 2 + 1)))) ∧ (W.cell? ⟨b2, i * 2, none⟩ = some (.int .i64 (f (i * 2))) ∧ W.cell? ⟨b2, i * 2 + 1, none⟩ = some (.int .i64 (f (i * 2 + 1)))) ∧ Below w.heap.size w W
theorem EqSEvent.below {w : World} {b1 b2 i : Nat} {f : Nat → Int} {W W' : World} (h : EqSEvent w b1 b2 i f W) (hb : Below W.heap.size W W') : EqSEvent w b1 b2 i f W' := by
  obtain ⟨⟨c0, c1⟩, ⟨d0, d1⟩, h3⟩ := h
  exact ⟨⟨(hb.cell (World.block_lt_of_cell? _ _ c0)).trans c0, (hb.cell (World.block_lt_of_cell? _ _ c1)).trans c1⟩, ⟨(hb.cell (World.block_lt_of_cell? _ _ d0)).trans d0, (hb.cell (World.block_lt_of_cell? _ _ d1)).trans d1⟩, h3.trans (hb.mono h3.size)⟩
set_option maxRecDepth 100000 in
set_option maxHeartbeats 1000000 in
theorem neqEvent_same (x0 x1 : Int) (w : World) :
    Calls Tryz.prog 30 #[.agg #[.int .i64 x0, .int .i64 x1], .agg #[.int .i64 x0, .int .i64 x1]] w fun e w' => e = .returned (.bool true) ∧ Below w.heap.size w w' := by
  go_enter Tryz.func30, Tryz.ntmps30
  go_wp2_with fail
  go_ret
  exact ⟨rfl, ((Below.refl _ _).alloc (Nat.le_refl _) _).alloc (by simp) _⟩
set_option maxRecDepth 100000 in
set_option maxHeartbeats 2000000 in
theorem neqEventS_same (a b : Option Addr) (n ca cb : Nat) (f : Nat → Int) (w : World) (h1 : IsAt a (n * 2) f w) (h2 : IsAt b (n * 2) f w) (hn : n ≤ 1048576) :
    Calls Tryz.prog 12 #[.slice a n ca, .slice b n cb] w fun e w' => e = .returned (.bool true) ∧ Below w.heap.size w w' := by
  have H1 := Lib.hid h1
  have H2 := Lib.hid h2
  clear h1 h2
  go_enter Tryz.func12, Tryz.ntmps12
  go_wp2_with fail
  go_loopw [5] (fun iv wr => ∃ (i : Nat), i ≤ n ∧ iv = .int .i64 i ∧ Hid (Below w.heap.size w wr)) (fun iv _ => n - (intOf iv).toNat)
  case atStart => exact ⟨0, Nat.zero_le _, rfl, Below.refl _ _⟩
  case round =>
    obtain ⟨i, hi, rfl, hB⟩ := hrel
    by_cases hlt : i < n
    · have hltz : (i : Int) < (n : Int) := by omega
      obtain ⟨b1, rfl, k1⟩ := (H1.out.below hB.out).at2 hlt
      obtain ⟨b2, rfl, k2⟩ := (H2.out.below hB.out).at2 hlt
      have HE : Hid (EqSEvent w b1 b2 i f wr) := ⟨k1, k2, hB.out⟩
      clear k1 k2 hB
      go_wp2_with fail
      refine wp_region_held_drew (S := EqSEvent w b1 b2 i f) (by kernel_rfl) (HE.out.below (Below.refl _ _).drew) (fun hHeld => ?_)
      clear HE
      refine take_do (i := 0) (v := (.slice (some ⟨b1, 0, none⟩) n ca)) rfl (by kernel_rfl) (by kernel_rfl) (by kernel_rfl) (fun _ _ _ h => h) (by rfl) ?_ (by assumption) ?_
      · intro w hSw
        obtain ⟨⟨c0, c1⟩, ⟨d0, d1⟩, _⟩ := hSw
        go_simp
      simp only [Act.put, List.setIfInBounds_toArray, List.set_cons_zero, List.set_cons_succ]
      refine take_do (i := 1) (v := (.int .i64 i)) rfl (by kernel_rfl) (by kernel_rfl) (by kernel_rfl) (fun _ _ _ h => h) (by rfl) ?_ (by assumption) ?_
      · intro w hSw
        obtain ⟨⟨c0, c1⟩, ⟨d0, d1⟩, _⟩ := hSw
        go_simp
      simp only [Act.put, List.setIfInBounds_toArray, List.set_cons_zero, List.set_cons_succ]
      refine take_do (i := 2) (v := (.pointer (some ⟨b1, i * 2, none⟩))) rfl (by kernel_rfl) (by kernel_rfl) (by kernel_rfl) (fun _ _ _ h => h) (by rfl) ?_ (by assumption) ?_
      · intro w hSw
        obtain ⟨⟨c0, c1⟩, ⟨d0, d1⟩, _⟩ := hSw
        go_simp
      simp only [Act.put, List.setIfInBounds_toArray, List.set_cons_zero, List.set_cons_succ]
      refine take_do (i := 3) (v := (.agg #[.int .i64 (f (i * 2)), .int .i64 (f (i * 2 + 1))])) rfl (by kernel_rfl) (by kernel_rfl) (by kernel_rfl) (fun _ _ _ h => h) (by rfl) ?_ (by assumption) ?_
      · intro w hSw
        obtain ⟨⟨c0, c1⟩, ⟨d0, d1⟩, _⟩ := hSw
        go_simp
      simp only [Act.put, List.setIfInBounds_toArray, List.set_cons_zero, List.set_cons_succ]
      refine take_do (i := 4) (v := (.slice (some ⟨b2, 0, none⟩) n cb)) rfl (by kernel_rfl) (by kernel_rfl) (by kernel_rfl) (fun _ _ _ h => h) (by rfl) ?_ (by assumption) ?_
      · intro w hSw
        obtain ⟨⟨c0, c1⟩, ⟨d0, d1⟩, _⟩ := hSw
        go_simp
      simp only [Act.put, List.setIfInBounds_toArray, List.set_cons_zero, List.set_cons_succ]
      refine take_do (i := 5) (v := (.int .i64 i)) rfl (by kernel_rfl) (by kernel_rfl) (by kernel_rfl) (fun _ _ _ h => h) (by rfl) ?_ (by assumption) ?_
      · intro w hSw
        obtain ⟨⟨c0, c1⟩, ⟨d0, d1⟩, _⟩ := hSw
        go_simp
      simp only [Act.put, List.setIfInBounds_toArray, List.set_cons_zero, List.set_cons_succ]
      refine take_do (i := 6) (v := (.pointer (some ⟨b2, i * 2, none⟩))) rfl (by kernel_rfl) (by kernel_rfl) (by kernel_rfl) (fun _ _ _ h => h) (by rfl) ?_ (by assumption) ?_
      · intro w hSw
        obtain ⟨⟨c0, c1⟩, ⟨d0, d1⟩, _⟩ := hSw
        go_simp
      simp only [Act.put, List.setIfInBounds_toArray, List.set_cons_zero, List.set_cons_succ]
      refine take_do (i := 7) (v := (.agg #[.int .i64 (f (i * 2)), .int .i64 (f (i * 2 + 1))])) rfl (by kernel_rfl) (by kernel_rfl) (by kernel_rfl) (fun _ _ _ h => h) (by rfl) ?_ (by assumption) ?_
      · intro w hSw
        obtain ⟨⟨c0, c1⟩, ⟨d0, d1⟩, _⟩ := hSw
        go_simp
      simp only [Act.put, List.setIfInBounds_toArray, List.set_cons_zero, List.set_cons_succ]
      refine take_call (i := 8) rfl (by kernel_rfl) (fun K2 hK => ?_)
      go_simp
      refine (neqEvent_same (f (i * 2)) (f (i * 2 + 1)) _).mono ?_
      rintro e w1 ⟨rfl, hb⟩
      go_wp2_with fail
      refine hK.out _ _ (hHeld.below hb) (fun hHeld2 => ?_)
      clear hK hHeld hb
      have hHeld := hHeld2
      clear hHeld2
      refine take_do (i := 9) (v := (.bool false)) rfl (by kernel_rfl) (by kernel_rfl) (by kernel_rfl) (fun _ _ _ h => h) (by rfl) ?_ (by assumption) ?_
      · intro w hSw
        obtain ⟨⟨c0, c1⟩, ⟨d0, d1⟩, _⟩ := hSw
        go_simp
      simp only [Act.put, List.setIfInBounds_toArray, List.set_cons_zero, List.set_cons_succ]
      refine wpAnyH_done (by kernel_rfl) ?_ _
      have HB1 := Lib.hid hHeld.2.2
      clear hHeld
      go_wp2_with fail
      go_roundw
      case rel => exact ⟨i + 1, by omega, by go_num, HB1⟩
      case measure => simp [intOf]; omega
    · obtain rfl : i = n := by omega
      go_wp2_with fail
      go_ret
      exact ⟨rfl, hB.out⟩
set_option maxRecDepth 100000 in
set_option maxHeartbeats 2000000 in
theorem nmarkEventS_any (g n c k : Nat) (f : Nat → Int) (w : World) (h : IsBlk 35 g (n * 2) f w) (hn : n ≤ 1048576) (hk : k ≤ 16777216) :
    Calls Tryz.prog 13 #[.slice (some ⟨g, 0, none⟩) n c, .int .i64 k] w fun e w' => e = .returned (.int .i64 ((k + n * 2 : Nat) : Int)) ∧ IsBlk 35 g (n * 2) (mk1 k) w' ∧ Only g w w' := by
  obtain ⟨M, F0, hM, hR, _⟩ := h
  have H : Hid (IsPart 35 g M 0 (mk1 k) w) := ⟨F0, hR, fun j hj => absurd hj (Nat.not_lt_zero _)⟩
  clear hR
  go_enter Tryz.func13, Tryz.ntmps13
  go_wp2_with fail
  go_loopw [1, 5] (fun kv iv wr => ∃ (i : Nat), i ≤ n ∧ kv = .int .i64 ((k + i * 2 : Nat) : Int) ∧ iv = .int .i64 i ∧ Hid (IsPart 35 g M (i * 2) (mk1 k) wr) ∧ Hid (Only g w wr)) (fun _ iv _ => n - (intOf iv).toNat)
  case atStart => exact ⟨0, Nat.zero_le _, by simp, rfl, by simpa using H, Only.refl _ _⟩
  case round =>
    obtain ⟨i, hi, rfl, rfl, hP, hO⟩ := hrel
    clear H
    by_cases hlt : i < n
    · have hltz : (i : Int) < (n : Int) := by omega
      obtain ⟨v0, y0⟩ := hP.out.cell (j := i * 2) (by omega)
      have z0 := hP.out.frozen (i * 2)
      obtain ⟨v1, y1⟩ := hP.out.cell (j := i * 2 + 1) (by omega)
      have z1 := hP.out.frozen (i * 2 + 1)
      have zg : g < wr.heap.size := hP.out.lt
      obtain ⟨K, hK⟩ : ∃ K : Nat, K = k + i * 2 := ⟨_, rfl⟩
      rw [← hK]
      have hK2 : K ≤ 25165824 := by omega
      have HP5 := Lib.hid (((hP.out.put ((K : Int)) (by unfold mk1; omega)).put ((K : Int) + 1) (by unfold mk1; omega)))
      have HO5 := Lib.hid (((hO.out.set (i * 2) (.int .i64 ((K : Int)))).set (i * 2 + 1) (.int .i64 ((K : Int) + 1))))
      have HKE : Hid (K = k + i * 2) := hK
      clear hP hO hK
      go_wp2_with fail
      go_roundw
      case rel =>
        refine ⟨i + 1, by omega, ?_, by go_num, by rw [Nat.succ_mul]; exact HP5, HO5⟩
        have := HKE.out
        congr 1; omega
      case measure => simp [intOf]; omega
    · obtain rfl : i = n := by omega
      go_wp2_with fail
      go_ret
      exact ⟨rfl, hP.out.full (by omega), hO.out⟩
set_option maxRecDepth 100000 in
set_option maxHeartbeats 2000000 in
theorem nmarkEventS_nil (k : Nat) (w : World) :
    Calls Tryz.prog 13 #[.slice none 0 0, .int .i64 k] w fun e w' => e = .returned (.int .i64 k) ∧ w' = w := by
  go_enter Tryz.func13, Tryz.ntmps13
  go_wp2_with fail
  go_loopw [1, 5] (fun kv iv wr => kv = .int .i64 k ∧ iv = .int .i64 0 ∧ wr = w) (fun _ _ _ => 0)
  case atStart => exact ⟨rfl, rfl, rfl⟩
  case round =>
    obtain ⟨rfl, rfl, rfl⟩ := hrel
    go_wp2_with fail
    go_ret
    exact ⟨rfl, rfl⟩
end Go.Proofs.YtighcbpcclifoaaGreatDoor
namespace Go.Proofs.YtighcbpcclifoaaGreatDoor
open Go.RowKit Go.Deep

/-- What a round of the comparison reads. -/
def EqSNote (w : World) (b1 o1 b2 o2 i : Nat) (f : Nat → Int) (W : World) : Prop := (W.cell? ⟨b1, o1 + i * 2, none⟩ = some (.int .i64 (f (i * 2))) ∧ W.cell? ⟨b1, o1 + i * 2 + 1, none⟩ = some (.int .i64 (f (i * 2 + 1)))) ∧ (W.cell? ⟨b2, o2 + i * 2, none⟩ = some (.int .i64 (f (i * 2))) ∧ W.cell? ⟨b2, o2 + i * 2 + 1, none⟩ = some (.int .i64 (f (i * 2 + 1)))) ∧ Below w.heap.size w W
theorem EqSNote.below {w : World} {b1 o1 b2 o2 i : Nat} {f : Nat → Int} {W W' : World} (h : EqSNote w b1 o1 b2 o2 i f W) (hb : Below W.heap.size W W') : EqSNote w b1 o1 b2 o2 i f W' := by
  obtain ⟨⟨c0, c1⟩, ⟨d0, d1⟩, h3⟩ := h
  exact ⟨⟨(hb.cell (World.block_lt_of_cell? _ _ c0)).trans c0, (hb.cell (World.block_lt_of_cell? _ _ c1)).trans c1⟩, ⟨(hb.cell (World.block_lt_of_cell? _ _ d0)).trans d0, (hb.cell (World.block_lt_of_cell? _ _ d1)).trans d1⟩, h3.trans (hb.mono h3.size)⟩
set_option maxRecDepth 100000 in
set_option maxHeartbeats 1000000 in
theorem neqNote_same (x0 x1 : Int) (w : World) :
    Calls Tryz.prog 69 #[.agg #[.int .i64 x0, .int .i64 x1], .agg #[.int .i64 x0, .int .i64 x1]] w fun e w' => e = .returned (.bool true) ∧ Below w.heap.size w w' := by
  go_enter Tryz.func69, Tryz.ntmps69
  go_wp2_with fail
  go_ret
  exact ⟨rfl, ((Below.refl _ _).alloc (Nat.le_refl _) _).alloc (by simp) _⟩
set_option maxRecDepth 100000 in
set_option maxHeartbeats 2000000 in
theorem neqNoteS_same (a b : Option Addr) (n ca cb : Nat) (f : Nat → Int) (w : World) (h1 : IsIn a (n * 2) f w) (h2 : IsIn b (n * 2) f w) (hn : n ≤ 1048576) :
    Calls Tryz.prog 50 #[.slice a n ca, .slice b n cb] w fun e w' => e = .returned (.bool true) ∧ Below w.heap.size w w' := by
  have H1 := Lib.hid h1
  have H2 := Lib.hid h2
  clear h1 h2
  go_enter Tryz.func50, Tryz.ntmps50
  go_wp2_with fail
  go_loopw [5] (fun iv wr => ∃ (i : Nat), i ≤ n ∧ iv = .int .i64 i ∧ Hid (Below w.heap.size w wr)) (fun iv _ => n - (intOf iv).toNat)
  case atStart => exact ⟨0, Nat.zero_le _, rfl, Below.refl _ _⟩
  case round =>
    obtain ⟨i, hi, rfl, hB⟩ := hrel
    by_cases hlt : i < n
    · have hltz : (i : Int) < (n : Int) := by omega
      obtain ⟨b1, o1, rfl, k1⟩ := (H1.out.below hB.out).at2 hlt
      obtain ⟨b2, o2, rfl, k2⟩ := (H2.out.below hB.out).at2 hlt
      have HE : Hid (EqSNote w b1 o1 b2 o2 i f wr) := ⟨k1, k2, hB.out⟩
      clear k1 k2 hB
      go_wp2_with fail
      refine wp_region_held_drew (S := EqSNote w b1 o1 b2 o2 i f) (by kernel_rfl) (HE.out.below (Below.refl _ _).drew) (fun hHeld => ?_)
      clear HE
      refine take_do (i := 0) (v := (.slice (some ⟨b1, o1, none⟩) n ca)) rfl (by kernel_rfl) (by kernel_rfl) (by kernel_rfl) (fun _ _ _ h => h) (by rfl) ?_ (by assumption) ?_
      · intro w hSw
        obtain ⟨⟨c0, c1⟩, ⟨d0, d1⟩, _⟩ := hSw
        go_simp
      simp only [Act.put, List.setIfInBounds_toArray, List.set_cons_zero, List.set_cons_succ]
      refine take_do (i := 1) (v := (.int .i64 i)) rfl (by kernel_rfl) (by kernel_rfl) (by kernel_rfl) (fun _ _ _ h => h) (by rfl) ?_ (by assumption) ?_
      · intro w hSw
        obtain ⟨⟨c0, c1⟩, ⟨d0, d1⟩, _⟩ := hSw
        go_simp
      simp only [Act.put, List.setIfInBounds_toArray, List.set_cons_zero, List.set_cons_succ]
      refine take_do (i := 2) (v := (.pointer (some ⟨b1, o1 + i * 2, none⟩))) rfl (by kernel_rfl) (by kernel_rfl) (by kernel_rfl) (fun _ _ _ h => h) (by rfl) ?_ (by assumption) ?_
      · intro w hSw
        obtain ⟨⟨c0, c1⟩, ⟨d0, d1⟩, _⟩ := hSw
        go_simp
      simp only [Act.put, List.setIfInBounds_toArray, List.set_cons_zero, List.set_cons_succ]
      refine take_do (i := 3) (v := (.agg #[.int .i64 (f (i * 2)), .int .i64 (f (i * 2 + 1))])) rfl (by kernel_rfl) (by kernel_rfl) (by kernel_rfl) (fun _ _ _ h => h) (by rfl) ?_ (by assumption) ?_
      · intro w hSw
        obtain ⟨⟨c0, c1⟩, ⟨d0, d1⟩, _⟩ := hSw
        go_simp
      simp only [Act.put, List.setIfInBounds_toArray, List.set_cons_zero, List.set_cons_succ]
      refine take_do (i := 4) (v := (.slice (some ⟨b2, o2, none⟩) n cb)) rfl (by kernel_rfl) (by kernel_rfl) (by kernel_rfl) (fun _ _ _ h => h) (by rfl) ?_ (by assumption) ?_
      · intro w hSw
        obtain ⟨⟨c0, c1⟩, ⟨d0, d1⟩, _⟩ := hSw
        go_simp
      simp only [Act.put, List.setIfInBounds_toArray, List.set_cons_zero, List.set_cons_succ]
      refine take_do (i := 5) (v := (.int .i64 i)) rfl (by kernel_rfl) (by kernel_rfl) (by kernel_rfl) (fun _ _ _ h => h) (by rfl) ?_ (by assumption) ?_
      · intro w hSw
        obtain ⟨⟨c0, c1⟩, ⟨d0, d1⟩, _⟩ := hSw
        go_simp
      simp only [Act.put, List.setIfInBounds_toArray, List.set_cons_zero, List.set_cons_succ]
      refine take_do (i := 6) (v := (.pointer (some ⟨b2, o2 + i * 2, none⟩))) rfl (by kernel_rfl) (by kernel_rfl) (by kernel_rfl) (fun _ _ _ h => h) (by rfl) ?_ (by assumption) ?_
      · intro w hSw
        obtain ⟨⟨c0, c1⟩, ⟨d0, d1⟩, _⟩ := hSw
        go_simp
      simp only [Act.put, List.setIfInBounds_toArray, List.set_cons_zero, List.set_cons_succ]
      refine take_do (i := 7) (v := (.agg #[.int .i64 (f (i * 2)), .int .i64 (f (i * 2 + 1))])) rfl (by kernel_rfl) (by kernel_rfl) (by kernel_rfl) (fun _ _ _ h => h) (by rfl) ?_ (by assumption) ?_
      · intro w hSw
        obtain ⟨⟨c0, c1⟩, ⟨d0, d1⟩, _⟩ := hSw
        go_simp
      simp only [Act.put, List.setIfInBounds_toArray, List.set_cons_zero, List.set_cons_succ]
      refine take_call (i := 8) rfl (by kernel_rfl) (fun K2 hK => ?_)
      go_simp
      refine (neqNote_same (f (i * 2)) (f (i * 2 + 1)) _).mono ?_
      rintro e w1 ⟨rfl, hb⟩
      go_wp2_with fail
      refine hK.out _ _ (hHeld.below hb) (fun hHeld2 => ?_)
      clear hK hHeld hb
      have hHeld := hHeld2
      clear hHeld2
      refine take_do (i := 9) (v := (.bool false)) rfl (by kernel_rfl) (by kernel_rfl) (by kernel_rfl) (fun _ _ _ h => h) (by rfl) ?_ (by assumption) ?_
      · intro w hSw
        obtain ⟨⟨c0, c1⟩, ⟨d0, d1⟩, _⟩ := hSw
        go_simp
      simp only [Act.put, List.setIfInBounds_toArray, List.set_cons_zero, List.set_cons_succ]
      refine wpAnyH_done (by kernel_rfl) ?_ _
      have HB1 := Lib.hid hHeld.2.2
      clear hHeld
      go_wp2_with fail
      go_roundw
      case rel => exact ⟨i + 1, by omega, by go_num, HB1⟩
      case measure => simp [intOf]; omega
    · obtain rfl : i = n := by omega
      go_wp2_with fail
      go_ret
      exact ⟨rfl, hB.out⟩
set_option maxRecDepth 100000 in
set_option maxHeartbeats 2000000 in
theorem nmarkNoteS_any (g n c k : Nat) (f : Nat → Int) (w : World) (h : IsBlk 37 g (n * 2) f w) (hn : n ≤ 1048576) (hk : k ≤ 16777216) :
    Calls Tryz.prog 51 #[.slice (some ⟨g, 0, none⟩) n c, .int .i64 k] w fun e w' => e = .returned (.int .i64 ((k + n * 2 : Nat) : Int)) ∧ IsBlk 37 g (n * 2) (mk1 k) w' ∧ Only g w w' := by
  obtain ⟨M, F0, hM, hR, _⟩ := h
  have H : Hid (IsPart 37 g M 0 (mk1 k) w) := ⟨F0, hR, fun j hj => absurd hj (Nat.not_lt_zero _)⟩
  clear hR
  go_enter Tryz.func51, Tryz.ntmps51
  go_wp2_with fail
  go_loopw [1, 5] (fun kv iv wr => ∃ (i : Nat), i ≤ n ∧ kv = .int .i64 ((k + i * 2 : Nat) : Int) ∧ iv = .int .i64 i ∧ Hid (IsPart 37 g M (i * 2) (mk1 k) wr) ∧ Hid (Only g w wr)) (fun _ iv _ => n - (intOf iv).toNat)
  case atStart => exact ⟨0, Nat.zero_le _, by simp, rfl, by simpa using H, Only.refl _ _⟩
  case round =>
    obtain ⟨i, hi, rfl, rfl, hP, hO⟩ := hrel
    clear H
    by_cases hlt : i < n
    · have hltz : (i : Int) < (n : Int) := by omega
      obtain ⟨v0, y0⟩ := hP.out.cell (j := i * 2) (by omega)
      have z0 := hP.out.frozen (i * 2)
      obtain ⟨v1, y1⟩ := hP.out.cell (j := i * 2 + 1) (by omega)
      have z1 := hP.out.frozen (i * 2 + 1)
      have zg : g < wr.heap.size := hP.out.lt
      obtain ⟨K, hK⟩ : ∃ K : Nat, K = k + i * 2 := ⟨_, rfl⟩
      rw [← hK]
      have hK2 : K ≤ 25165824 := by omega
      have HP5 := Lib.hid (((hP.out.put ((K : Int)) (by unfold mk1; omega)).put ((K : Int) + 1) (by unfold mk1; omega)))
      have HO5 := Lib.hid (((hO.out.set (i * 2) (.int .i64 ((K : Int)))).set (i * 2 + 1) (.int .i64 ((K : Int) + 1))))
      have HKE : Hid (K = k + i * 2) := hK
      clear hP hO hK
      go_wp2_with fail
      go_roundw
      case rel =>
        refine ⟨i + 1, by omega, ?_, by go_num, by rw [Nat.succ_mul]; exact HP5, HO5⟩
        have := HKE.out
        congr 1; omega
      case measure => simp [intOf]; omega
    · obtain rfl : i = n := by omega
      go_wp2_with fail
      go_ret
      exact ⟨rfl, hP.out.full (by omega), hO.out⟩
set_option maxRecDepth 100000 in
set_option maxHeartbeats 2000000 in
theorem nmarkNoteS_nil (k : Nat) (w : World) :
    Calls Tryz.prog 51 #[.slice none 0 0, .int .i64 k] w fun e w' => e = .returned (.int .i64 k) ∧ w' = w := by
  go_enter Tryz.func51, Tryz.ntmps51
  go_wp2_with fail
  go_loopw [1, 5] (fun kv iv wr => kv = .int .i64 k ∧ iv = .int .i64 0 ∧ wr = w) (fun _ _ _ => 0)
  case atStart => exact ⟨rfl, rfl, rfl⟩
  case round =>
    obtain ⟨rfl, rfl, rfl⟩ := hrel
    go_wp2_with fail
    go_ret
    exact ⟨rfl, rfl⟩
set_option maxRecDepth 100000 in
set_option maxHeartbeats 2000000 in
theorem nheldNoteS_any (g n c k : Nat) (w : World) (h : IsBlk 37 g (n * 2) (mk1 k) w) (hn : n ≤ 1048576) (hk : k ≤ 16777216) :
    Calls Tryz.prog 52 #[.slice (some ⟨g, 0, none⟩) n c, .int .i64 k] w fun e w' => e = .returned (.int .i64 ((k + n * 2 : Nat) : Int)) ∧ w' = w := by
  have H := Lib.hid h
  clear h
  go_enter Tryz.func52, Tryz.ntmps52
  go_wp2_with fail
  go_loopw [1, 5] (fun kv iv wr => ∃ (i : Nat), i ≤ n ∧ kv = .int .i64 ((k + i * 2 : Nat) : Int) ∧ iv = .int .i64 i ∧ Hid (wr = w)) (fun _ iv _ => n - (intOf iv).toNat)
  case atStart => exact ⟨0, Nat.zero_le _, by simp, rfl, rfl⟩
  case round =>
    obtain ⟨i, hi, rfl, rfl, hW⟩ := hrel
    obtain rfl := hW.out
    clear hW
    by_cases hlt : i < n
    · have hltz : (i : Int) < (n : Int) := by omega
      obtain ⟨K, hK⟩ : ∃ K : Nat, K = k + i * 2 := ⟨_, rfl⟩
      have c0 : wr.cell? ⟨g, i * 2, none⟩ = some (.int .i64 ((K : Int))) := (H.out.cell (i := i * 2) (by omega)).trans (by unfold mk1; rw [hK])
      have c1 : wr.cell? ⟨g, i * 2 + 1, none⟩ = some (.int .i64 ((K : Int) + 1)) := (H.out.cell (i := i * 2 + 1) (by omega)).trans (by unfold mk1; rw [hK]; simp; omega)
      rw [← hK]
      have hK2 : K ≤ 25165824 := by omega
      have HKE : Hid (K = k + i * 2) := hK
      clear hK
      go_wp2_with fail
      go_roundw
      case rel =>
        refine ⟨i + 1, by omega, ?_, by go_num, by first | exact rfl | exact (trivial : True)⟩
        have := HKE.out
        congr 1; omega
      case measure => simp [intOf]; omega
    · obtain rfl : i = n := by omega
      go_wp2_with fail
      go_ret
      exact ⟨rfl, rfl⟩
set_option maxRecDepth 100000 in
set_option maxHeartbeats 2000000 in
theorem nheldNoteS_nil (k : Nat) (w : World) :
    Calls Tryz.prog 52 #[.slice none 0 0, .int .i64 k] w fun e w' => e = .returned (.int .i64 k) ∧ w' = w := by
  go_enter Tryz.func52, Tryz.ntmps52
  go_wp2_with fail
  go_loopw [1, 5] (fun kv iv wr => kv = .int .i64 k ∧ iv = .int .i64 0 ∧ wr = w) (fun _ _ _ => 0)
  case atStart => exact ⟨rfl, rfl, rfl⟩
  case round =>
    obtain ⟨rfl, rfl, rfl⟩ := hrel
    go_wp2_with fail
    go_ret
    exact ⟨rfl, rfl⟩
/-- The first numbers of a block from a place on are there. -/
def NsPart (T : TypeId) (g o M N : Nat) (f : Nat → Int) (w : World) : Prop := ∃ F, w.rowIs g T M F ∧ ∀ j, j < N → F (o + j) = .int .i64 (f j)
theorem NsPart.lt {T : TypeId} {g o M N : Nat} {f : Nat → Int} {w : World} (h : NsPart T g o M N f w) : g < w.heap.size := by obtain ⟨F, h1, _⟩ := h; exact h1.lt
theorem NsPart.cell {T : TypeId} {g o M N j : Nat} {f : Nat → Int} {w : World} (h : NsPart T g o M N f w) (hj : o + j < M) : ∃ v, w.cell? ⟨g, o + j, none⟩ = some v := by obtain ⟨F, h1, _⟩ := h; exact ⟨_, h1.cell hj⟩
theorem NsPart.frozen {T : TypeId} {g o M N : Nat} {f : Nat → Int} {w : World} (h : NsPart T g o M N f w) (j : Nat) : w.frozen? ⟨g, j, none⟩ = false := by obtain ⟨F, h1, _⟩ := h; exact h1.frozen j
theorem NsPart.put {T : TypeId} {g o M N : Nat} {f : Nat → Int} {w : World} (h : NsPart T g o M N f w) (z : Int) (hz : z = f N) : NsPart T g o M (N + 1) f (w.setCell ⟨g, o + N, none⟩ (.int .i64 z)) := by
  obtain ⟨F, h1, h2⟩ := h
  subst hz
  refine ⟨_, h1.set (o + N) _, fun j hj => ?_⟩
  by_cases e : j = N
  · subst e; simp
  · simp only [show ¬ o + j = o + N by omega, if_false]; exact h2 j (by omega)
set_option maxRecDepth 100000 in
set_option maxHeartbeats 2000000 in
theorem omarkNoteS_any (g o n c k : Nat) (f : Nat → Int) (w : World) (h : NsBlk 37 g o (n * 2) f w) (hn : n ≤ 1048576) (hk : k ≤ 16777216) :
    Calls Tryz.prog 51 #[.slice (some ⟨g, o, none⟩) n c, .int .i64 k] w fun e w' => e = .returned (.int .i64 ((k + n * 2 : Nat) : Int)) ∧ NsBlk 37 g o (n * 2) (mk1 k) w' ∧ Only g w w' := by
  obtain ⟨M, F0, hM, hR, _⟩ := h
  have H : Hid (NsPart 37 g o M 0 (mk1 k) w) := ⟨F0, hR, fun j hj => absurd hj (Nat.not_lt_zero _)⟩
  clear hR
  go_enter Tryz.func51, Tryz.ntmps51
  go_wp2_with fail
  go_loopw [1, 5] (fun kv iv wr => ∃ (i : Nat), i ≤ n ∧ kv = .int .i64 ((k + i * 2 : Nat) : Int) ∧ iv = .int .i64 i ∧ Hid (NsPart 37 g o M (i * 2) (mk1 k) wr) ∧ Hid (Only g w wr)) (fun _ iv _ => n - (intOf iv).toNat)
  case atStart => exact ⟨0, Nat.zero_le _, by simp, rfl, by simpa using H, Only.refl _ _⟩
  case round =>
    obtain ⟨i, hi, rfl, rfl, hP, hO⟩ := hrel
    clear H
    by_cases hlt : i < n
    · have hltz : (i : Int) < (n : Int) := by omega
      obtain ⟨v0, y0⟩ := hP.out.cell (j := i * 2) (by omega)
      have z0 := hP.out.frozen (o + i * 2)
      obtain ⟨v1, y1⟩ : ∃ v, wr.cell? ⟨g, o + i * 2 + 1, none⟩ = some v := hP.out.cell (j := i * 2 + 1) (by omega)
      have z1 := hP.out.frozen (o + i * 2 + 1)
      have zg : g < wr.heap.size := hP.out.lt
      obtain ⟨K, hK⟩ : ∃ K : Nat, K = k + i * 2 := ⟨_, rfl⟩
      rw [← hK]
      have hK2 : K ≤ 25165824 := by omega
      have HP5 := Lib.hid (((hP.out.put ((K : Int)) (by unfold mk1; omega)).put ((K : Int) + 1) (by unfold mk1; omega)))
      have HO5 := Lib.hid (((hO.out.set (o + i * 2) (.int .i64 ((K : Int)))).set (o + i * 2 + 1) (.int .i64 ((K : Int) + 1))))
      have HKE : Hid (K = k + i * 2) := hK
      clear hP hO hK
      go_wp2_with fail
      go_roundw
      case rel =>
        refine ⟨i + 1, by omega, ?_, by go_num, by rw [Nat.succ_mul]; exact HP5, HO5⟩
        have := HKE.out
        congr 1; omega
      case measure => simp [intOf]; omega
    · obtain rfl : i = n := by omega
      have HX : Hid (NsBlk 37 g o (i * 2) (mk1 k) wr) := by obtain ⟨F, h1, h2⟩ := hP.out; exact ⟨M, F, hM, h1, h2⟩
      go_wp2_with fail
      go_ret
      exact ⟨rfl, HX.out, hO.out⟩
set_option maxRecDepth 100000 in
set_option maxHeartbeats 2000000 in
theorem omarkNoteS_nil (a : Option Addr) (c k : Nat) (w : World) :
    Calls Tryz.prog 51 #[.slice a 0 c, .int .i64 k] w fun e w' => e = .returned (.int .i64 k) ∧ w' = w := by
  go_enter Tryz.func51, Tryz.ntmps51
  go_wp2_with fail
  go_loopw [1, 5] (fun kv iv wr => kv = .int .i64 k ∧ iv = .int .i64 0 ∧ wr = w) (fun _ _ _ => 0)
  case atStart => exact ⟨rfl, rfl, rfl⟩
  case round =>
    obtain ⟨rfl, rfl, rfl⟩ := hrel
    go_wp2_with fail
    go_ret
    exact ⟨rfl, rfl⟩
set_option maxRecDepth 100000 in
set_option maxHeartbeats 2000000 in
theorem oheldNoteS_any (g o n c k : Nat) (w : World) (h : NsBlk 37 g o (n * 2) (mk1 k) w) (hn : n ≤ 1048576) (hk : k ≤ 16777216) :
    Calls Tryz.prog 52 #[.slice (some ⟨g, o, none⟩) n c, .int .i64 k] w fun e w' => e = .returned (.int .i64 ((k + n * 2 : Nat) : Int)) ∧ w' = w := by
  have H := Lib.hid h
  clear h
  go_enter Tryz.func52, Tryz.ntmps52
  go_wp2_with fail
  go_loopw [1, 5] (fun kv iv wr => ∃ (i : Nat), i ≤ n ∧ kv = .int .i64 ((k + i * 2 : Nat) : Int) ∧ iv = .int .i64 i ∧ Hid (wr = w)) (fun _ iv _ => n - (intOf iv).toNat)
  case atStart => exact ⟨0, Nat.zero_le _, by simp, rfl, rfl⟩
  case round =>
    obtain ⟨i, hi, rfl, rfl, hW⟩ := hrel
    obtain rfl := hW.out
    clear hW
    by_cases hlt : i < n
    · have hltz : (i : Int) < (n : Int) := by omega
      obtain ⟨K, hK⟩ : ∃ K : Nat, K = k + i * 2 := ⟨_, rfl⟩
      have c0 : wr.cell? ⟨g, o + i * 2, none⟩ = some (.int .i64 ((K : Int))) := (H.out.cell (i := i * 2) (by omega)).trans (by unfold mk1; rw [hK])
      have c1 : wr.cell? ⟨g, o + i * 2 + 1, none⟩ = some (.int .i64 ((K : Int) + 1)) := (H.out.cell (i := i * 2 + 1) (by omega)).trans (by unfold mk1; rw [hK]; simp; omega)
      rw [← hK]
      have hK2 : K ≤ 25165824 := by omega
      have HKE : Hid (K = k + i * 2) := hK
      clear hK
      go_wp2_with fail
      go_roundw
      case rel =>
        refine ⟨i + 1, by omega, ?_, by go_num, by first | exact rfl | exact (trivial : True)⟩
        have := HKE.out
        congr 1; omega
      case measure => simp [intOf]; omega
    · obtain rfl : i = n := by omega
      go_wp2_with fail
      go_ret
      exact ⟨rfl, rfl⟩
set_option maxRecDepth 100000 in
set_option maxHeartbeats 2000000 in
theorem oheldNoteS_nil (a : Option Addr) (c k : Nat) (w : World) :
    Calls Tryz.prog 52 #[.slice a 0 c, .int .i64 k] w fun e w' => e = .returned (.int .i64 k) ∧ w' = w := by
  go_enter Tryz.func52, Tryz.ntmps52
  go_wp2_with fail
  go_loopw [1, 5] (fun kv iv wr => kv = .int .i64 k ∧ iv = .int .i64 0 ∧ wr = w) (fun _ _ _ => 0)
  case atStart => exact ⟨rfl, rfl, rfl⟩
  case round =>
    obtain ⟨rfl, rfl, rfl⟩ := hrel
    go_wp2_with fail
    go_ret
    exact ⟨rfl, rfl⟩
/-- The marks of an own list. -/
theorem markNs {B N c k : Nat} {a : Option Addr} {f : Nat → Int} (w : World) (h : NqOwn 37 B N a f w) (hn : N ≤ 1048576) (hk : k ≤ 16777216) (hB : B ≤ w.heap.size) :
    Calls Tryz.prog 51 #[.slice a N c, .int .i64 k] w fun e w' => e = .returned (.int .i64 ((k + N * 2 : Nat) : Int)) ∧ NqOwn 37 B N a (mk1 k) w' ∧ Below B w w' ∧ (∀ j T n F, w.rowIs j T n F → 37 ≠ T → w'.rowIs j T n F) ∧ (∀ j, j < w.heap.size → (N ≠ 0 → ∀ o, a ≠ some ⟨j, o, none⟩) → w'.heap[j]? = w.heap[j]?) := by
  by_cases h0 : N = 0
  · subst h0
    refine (omarkNoteS_nil a c k w).mono ?_
    rintro e w' ⟨rfl, rfl⟩
    exact ⟨rfl, Or.inl rfl, Below.refl _ _, fun _ _ _ _ h _ => h, fun _ _ _ => rfl⟩
  · rcases h with h | ⟨g, o, rfl, h1, h2⟩
    · exact absurd h h0
    · have hty : ∀ T n F, w.rowIs g T n F → ¬ 37 ≠ T := by
        intro T n F hr hT
        obtain ⟨_, _, _, q2, _⟩ := h2
        obtain ⟨_, q3, _⟩ := q2
        obtain ⟨_, q1, _⟩ := hr
        rw [q1] at q3
        simp at q3
        exact hT q3.2.symm
      refine (omarkNoteS_any g o N c k f w h2 hn hk).mono ?_
      rintro e w' ⟨rfl, hm, ho⟩
      exact ⟨rfl, Or.inr ⟨g, o, rfl, h1, hm⟩, ho.below h1 hB, fun j T n F hr hT => hr.of_block (ho.block j hr.lt (fun e => by subst e; exact hty T n F hr hT)), fun j hj hne => ho.block j hj (fun e => hne h0 o (by rw [e]))⟩
theorem heldNs {B N c k : Nat} {a : Option Addr} (w : World) (h : NqOwn 37 B N a (mk1 k) w) (hn : N ≤ 1048576) (hk : k ≤ 16777216) :
    Calls Tryz.prog 52 #[.slice a N c, .int .i64 k] w fun e w' => e = .returned (.int .i64 ((k + N * 2 : Nat) : Int)) ∧ w' = w := by
  by_cases h0 : N = 0
  · subst h0
    exact oheldNoteS_nil a c k w
  · rcases h with h | ⟨g, o, rfl, h1, h2⟩
    · exact absurd h h0
    · exact oheldNoteS_any g o N c k w h2 hn hk
end Go.Proofs.YtighcbpcclifoaaGreatDoor
namespace Go.Proofs.YtighcbpcclifoaaGreatDoor
open Go.RowKit Go.Deep
set_option maxRecDepth 100000 in
set_option maxHeartbeats 4000000 in
theorem eqStation_same (s : Ln.S) (a b : Option Addr) (ka kb : Nat) (w : World) (h1 : IsIn a (s.wait.length * 2) (Ln.fl s.wait) w) (h2 : IsIn b (s.wait.length * 2) (Ln.fl s.wait) w) (hn : s.wait.length ≤ 1048576) :
    Calls Tryz.prog 28 #[stV s a ka, stV s b kb] w fun e w' => e = .returned (.bool true) ∧ Below w.heap.size w w' := by
  obtain ⟨W, hW⟩ : ∃ W, W = (w.alloc (.cells #[.int .i64 s.unit, .int .i64 s.band, .bool s.seen, .int .i64 s.last, .int .i64 s.next, .slice a s.wait.length ka, .int .i64 s.drops] 28)).alloc (.cells #[.int .i64 s.unit, .int .i64 s.band, .bool s.seen, .int .i64 s.last, .int .i64 s.next, .slice b s.wait.length kb, .int .i64 s.drops] 28) := ⟨_, rfl⟩
  have hB : Below w.heap.size w W := by rw [hW]; exact ((Below.refl _ _).alloc (Nat.le_refl _) _).alloc (by simp) _
  have RA : W.rowIs w.heap.size 28 7 (rowN [.int .i64 s.unit, .int .i64 s.band, .bool s.seen, .int .i64 s.last, .int .i64 s.next, .slice a s.wait.length ka, .int .i64 s.drops]) := by rw [hW]; exact nrow_below (rowN_alloc w _ _) (nbel_alloc _ _)
  have RO : W.rowIs (w.heap.size + 1) 28 7 (rowN [.int .i64 s.unit, .int .i64 s.band, .bool s.seen, .int .i64 s.last, .int .i64 s.next, .slice b s.wait.length kb, .int .i64 s.drops]) := by rw [hW]; exact rowN_alloc' (by simp) _ _
  have HW := Lib.hid hW
  have HB := Lib.hid hB
  have H1 := Lib.hid h1
  have H2 := Lib.hid h2
  have HRA := Lib.hid RA
  have HRO := Lib.hid RO
  clear hW hB h1 h2 RA RO
  go_enter Tryz.func28, Tryz.ntmps28
  go_wp2_with fail
  rw [← HW.out]
  refine (neqNoteS_same a b s.wait.length ka kb (Ln.fl s.wait) _ (H1.out.below HB.out) (H2.out.below HB.out) hn).mono ?_
  rintro e w1 ⟨rfl, hb1⟩
  obtain ⟨⟨x0, x1, x2, x3, x4, x5, x6⟩, _⟩ := rowN7 (nrow_below HRA.out hb1)
  obtain ⟨⟨y0, y1, y2, y3, y4, y5, y6⟩, _⟩ := rowN7 (nrow_below HRO.out hb1)
  have HB1 : Hid (Below w.heap.size w w1) := HB.out.trans (hb1.mono HB.out.size)
  clear hb1
  go_wp2_with fail
  go_ret
  exact ⟨rfl, HB1.out⟩
set_option maxRecDepth 100000 in
set_option maxHeartbeats 4000000 in
theorem eqMaster_same (m : Ln.M) (a b : Option Addr) (ka kb : Nat) (w : World) (h1 : IsIn a (m.notes.length * 2) (Ln.fl m.notes) w) (h2 : IsIn b (m.notes.length * 2) (Ln.fl m.notes) w) (hn : m.notes.length ≤ 1048576) :
    Calls Tryz.prog 29 #[maV m a ka, maV m b kb] w fun e w' => e = .returned (.bool true) ∧ Below w.heap.size w w' := by
  obtain ⟨W, hW⟩ : ∃ W, W = (w.alloc (.cells #[.int .i64 m.seq, .slice a m.notes.length ka, .int .i64 m.gaps] 30)).alloc (.cells #[.int .i64 m.seq, .slice b m.notes.length kb, .int .i64 m.gaps] 30) := ⟨_, rfl⟩
  have hB : Below w.heap.size w W := by rw [hW]; exact ((Below.refl _ _).alloc (Nat.le_refl _) _).alloc (by simp) _
  have RA : W.rowIs w.heap.size 30 3 (rowN [.int .i64 m.seq, .slice a m.notes.length ka, .int .i64 m.gaps]) := by rw [hW]; exact nrow_below (rowN_alloc w _ _) (nbel_alloc _ _)
  have RO : W.rowIs (w.heap.size + 1) 30 3 (rowN [.int .i64 m.seq, .slice b m.notes.length kb, .int .i64 m.gaps]) := by rw [hW]; exact rowN_alloc' (by simp) _ _
  have HW := Lib.hid hW
  have HB := Lib.hid hB
  have H1 := Lib.hid h1
  have H2 := Lib.hid h2
  have HRA := Lib.hid RA
  have HRO := Lib.hid RO
  clear hW hB h1 h2 RA RO
  go_enter Tryz.func29, Tryz.ntmps29
  go_wp2_with fail
  rw [← HW.out]
  refine (neqNoteS_same a b m.notes.length ka kb (Ln.fl m.notes) _ (H1.out.below HB.out) (H2.out.below HB.out) hn).mono ?_
  rintro e w1 ⟨rfl, hb1⟩
  obtain ⟨⟨x0, x1, x2⟩, _⟩ := rowN3 (nrow_below HRA.out hb1)
  obtain ⟨⟨y0, y1, y2⟩, _⟩ := rowN3 (nrow_below HRO.out hb1)
  have HB1 : Hid (Below w.heap.size w w1) := HB.out.trans (hb1.mono HB.out.size)
  clear hb1
  go_wp2_with fail
  go_ret
  exact ⟨rfl, HB1.out⟩
set_option maxRecDepth 100000 in
set_option maxHeartbeats 2000000 in
theorem markStation_any (s : Ln.S) {B c : Nat} {a : Option Addr} {f : Nat → Int} (k : Nat) (w : World) (h : NqOwn 37 B s.wait.length a f w) (hn : s.wait.length ≤ 1048576) (hk : k ≤ 4194304) (hB : B ≤ w.heap.size) :
    Calls Tryz.prog 31 #[stV s a c, .int .i64 k] w fun e w' => e = .returned (.int .i64 ((k + s.wait.length * 2 : Nat) : Int)) ∧ NqOwn 37 B s.wait.length a (mk1 k) w' ∧ Below B w w' ∧ (∀ j T n F, w.rowIs j T n F → 37 ≠ T → w'.rowIs j T n F) ∧ (∀ j, j < w.heap.size → (s.wait.length ≠ 0 → ∀ o, a ≠ some ⟨j, o, none⟩) → w'.heap[j]? = w.heap[j]?) := by
  obtain ⟨W, hW⟩ : ∃ W, W = w.alloc (.cells #[.int .i64 s.unit, .int .i64 s.band, .bool s.seen, .int .i64 s.last, .int .i64 s.next, .slice a s.wait.length c, .int .i64 s.drops] 28) := ⟨_, rfl⟩
  have HB : Hid (Below w.heap.size w W) := by show Below _ _ _; rw [hW]; exact nbel_alloc _ _
  have H := Lib.hid (h.below HB.out)
  have HW := Lib.hid hW
  have HBB := Lib.hid hB
  clear hW h
  go_enter Tryz.func31, Tryz.ntmps31
  go_wp2_with fail
  rw [← HW.out]
  clear HW
  refine (markNs _ H.out hn (by omega) (Nat.le_trans HBB.out HB.out.size)).mono ?_
  rintro e w1 ⟨rfl, hm, hb, hr, hj⟩
  have HM := Lib.hid hm
  have HP : Hid (Below B w w1 ∧ (∀ j T n F, w.rowIs j T n F → 37 ≠ T → w1.rowIs j T n F) ∧ (∀ j, j < w.heap.size → (s.wait.length ≠ 0 → ∀ o, a ≠ some ⟨j, o, none⟩) → w1.heap[j]? = w.heap[j]?)) := by
    have b := HB.out
    exact ⟨(b.mono HBB.out).trans hb, fun j T n F h1 h2 => hr j T n F (nrow_below h1 b) h2, fun j h1 h2 => (hj j (Nat.lt_of_lt_of_le h1 b.size) h2).trans (b.block j h1)⟩
  clear hm hb hr hj
  obtain ⟨Q, hQ⟩ : ∃ Q : Nat, Q = k + s.wait.length * 2 := ⟨_, rfl⟩
  rw [← hQ]
  have HQ := Lib.hid hQ
  clear hQ
  go_wp2_with fail
  go_ret
  exact ⟨by rw [← HQ.out]; rfl, HM.out, HP.out⟩
set_option maxRecDepth 100000 in
set_option maxHeartbeats 2000000 in
theorem heldStation_any (s : Ln.S) {B c : Nat} {a : Option Addr} (k : Nat) (w : World) (h : NqOwn 37 B s.wait.length a (mk1 k) w) (hn : s.wait.length ≤ 1048576) (hk : k ≤ 4194304) :
    Calls Tryz.prog 33 #[stV s a c, .int .i64 k] w fun e w' => e = .returned (.int .i64 ((k + s.wait.length * 2 : Nat) : Int)) ∧ Below w.heap.size w w' := by
  obtain ⟨W, hW⟩ : ∃ W, W = w.alloc (.cells #[.int .i64 s.unit, .int .i64 s.band, .bool s.seen, .int .i64 s.last, .int .i64 s.next, .slice a s.wait.length c, .int .i64 s.drops] 28) := ⟨_, rfl⟩
  have HB : Hid (Below w.heap.size w W) := by show Below _ _ _; rw [hW]; exact nbel_alloc _ _
  have H := Lib.hid (h.below HB.out)
  have HW := Lib.hid hW
  clear hW h
  go_enter Tryz.func33, Tryz.ntmps33
  go_wp2_with fail
  rw [← HW.out]
  clear HW
  refine (heldNs _ H.out hn (by omega)).mono ?_
  rintro e w1 ⟨rfl, rfl⟩
  obtain ⟨Q, hQ⟩ : ∃ Q : Nat, Q = k + s.wait.length * 2 := ⟨_, rfl⟩
  rw [← hQ]
  have hQ0 : ¬ (Q : Int) < 0 := by omega
  have HQ := Lib.hid hQ
  clear hQ
  go_wp2_with fail
  go_ret
  exact ⟨by rw [← HQ.out]; rfl, HB.out⟩
set_option maxRecDepth 100000 in
set_option maxHeartbeats 2000000 in
theorem markMaster_any (m : Ln.M) {B c : Nat} {a : Option Addr} {f : Nat → Int} (k : Nat) (w : World) (h : NqOwn 37 B m.notes.length a f w) (hn : m.notes.length ≤ 1048576) (hk : k ≤ 4194304) (hB : B ≤ w.heap.size) :
    Calls Tryz.prog 32 #[maV m a c, .int .i64 k] w fun e w' => e = .returned (.int .i64 ((k + m.notes.length * 2 : Nat) : Int)) ∧ NqOwn 37 B m.notes.length a (mk1 k) w' ∧ Below B w w' ∧ (∀ j T n F, w.rowIs j T n F → 37 ≠ T → w'.rowIs j T n F) ∧ (∀ j, j < w.heap.size → (m.notes.length ≠ 0 → ∀ o, a ≠ some ⟨j, o, none⟩) → w'.heap[j]? = w.heap[j]?) := by
  obtain ⟨W, hW⟩ : ∃ W, W = w.alloc (.cells #[.int .i64 m.seq, .slice a m.notes.length c, .int .i64 m.gaps] 30) := ⟨_, rfl⟩
  have HB : Hid (Below w.heap.size w W) := by show Below _ _ _; rw [hW]; exact nbel_alloc _ _
  have H := Lib.hid (h.below HB.out)
  have HW := Lib.hid hW
  have HBB := Lib.hid hB
  clear hW h
  go_enter Tryz.func32, Tryz.ntmps32
  go_wp2_with fail
  rw [← HW.out]
  clear HW
  refine (markNs _ H.out hn (by omega) (Nat.le_trans HBB.out HB.out.size)).mono ?_
  rintro e w1 ⟨rfl, hm, hb, hr, hj⟩
  have HM := Lib.hid hm
  have HP : Hid (Below B w w1 ∧ (∀ j T n F, w.rowIs j T n F → 37 ≠ T → w1.rowIs j T n F) ∧ (∀ j, j < w.heap.size → (m.notes.length ≠ 0 → ∀ o, a ≠ some ⟨j, o, none⟩) → w1.heap[j]? = w.heap[j]?)) := by
    have b := HB.out
    exact ⟨(b.mono HBB.out).trans hb, fun j T n F h1 h2 => hr j T n F (nrow_below h1 b) h2, fun j h1 h2 => (hj j (Nat.lt_of_lt_of_le h1 b.size) h2).trans (b.block j h1)⟩
  clear hm hb hr hj
  obtain ⟨Q, hQ⟩ : ∃ Q : Nat, Q = k + m.notes.length * 2 := ⟨_, rfl⟩
  rw [← hQ]
  have HQ := Lib.hid hQ
  clear hQ
  go_wp2_with fail
  go_ret
  exact ⟨by rw [← HQ.out]; rfl, HM.out, HP.out⟩
set_option maxRecDepth 100000 in
set_option maxHeartbeats 2000000 in
theorem heldMaster_any (m : Ln.M) {B c : Nat} {a : Option Addr} (k : Nat) (w : World) (h : NqOwn 37 B m.notes.length a (mk1 k) w) (hn : m.notes.length ≤ 1048576) (hk : k ≤ 4194304) :
    Calls Tryz.prog 34 #[maV m a c, .int .i64 k] w fun e w' => e = .returned (.int .i64 ((k + m.notes.length * 2 : Nat) : Int)) ∧ Below w.heap.size w w' := by
  obtain ⟨W, hW⟩ : ∃ W, W = w.alloc (.cells #[.int .i64 m.seq, .slice a m.notes.length c, .int .i64 m.gaps] 30) := ⟨_, rfl⟩
  have HB : Hid (Below w.heap.size w W) := by show Below _ _ _; rw [hW]; exact nbel_alloc _ _
  have H := Lib.hid (h.below HB.out)
  have HW := Lib.hid hW
  clear hW h
  go_enter Tryz.func34, Tryz.ntmps34
  go_wp2_with fail
  rw [← HW.out]
  clear HW
  refine (heldNs _ H.out hn (by omega)).mono ?_
  rintro e w1 ⟨rfl, rfl⟩
  obtain ⟨Q, hQ⟩ : ∃ Q : Nat, Q = k + m.notes.length * 2 := ⟨_, rfl⟩
  rw [← hQ]
  have hQ0 : ¬ (Q : Int) < 0 := by omega
  have HQ := Lib.hid hQ
  clear hQ
  go_wp2_with fail
  go_ret
  exact ⟨by rw [← HQ.out]; rfl, HB.out⟩
end Go.Proofs.YtighcbpcclifoaaGreatDoor
namespace Go.Proofs.YtighcbpcclifoaaGreatDoor
open Go.RowKit Go.Deep

theorem NqOwn.blk {T : TypeId} {B N : Nat} {a : Option Addr} {f : Nat → Int} {W W' : World} (h : NqOwn T B N a f W) (hb : ∀ g o, N ≠ 0 → a = some ⟨g, o, none⟩ → W'.heap[g]? = W.heap[g]?) : NqOwn T B N a f W' := by
  by_cases hN : N = 0
  · exact Or.inl hN
  rcases h with h | ⟨g, o, e, hg, k⟩
  · exact absurd h hN
  · exact Or.inr ⟨g, o, e, hg, k.block (hb g o hN e)⟩
set_option maxRecDepth 100000 in
set_option maxHeartbeats 4000000 in
theorem eqLinkOut_same (s : Ln.S) (m : Ln.M) (a b a' b' : Option Addr) (k l k' l' : Nat) (cd : Int) (w : World) (h1 : IsIn a (s.wait.length * 2) (Ln.fl s.wait) w) (h2 : IsIn b (m.notes.length * 2) (Ln.fl m.notes) w) (h3 : IsIn a' (s.wait.length * 2) (Ln.fl s.wait) w) (h4 : IsIn b' (m.notes.length * 2) (Ln.fl m.notes) w) (hn : s.wait.length ≤ 1048576) (hm : m.notes.length ≤ 1048576) :
    Calls Tryz.prog 11 #[loV s m a k b l cd, loV s m a' k' b' l' cd] w fun e w' => e = .returned (.bool true) ∧ Below w.heap.size w w' := by
  obtain ⟨W, hW⟩ : ∃ W, W = (w.alloc (.cells #[.int .i64 s.unit, .int .i64 s.band, .bool s.seen, .int .i64 s.last, .int .i64 s.next, .slice a s.wait.length k, .int .i64 s.drops, .int .i64 m.seq, .slice b m.notes.length l, .int .i64 m.gaps, .int .i64 cd] 32)).alloc (.cells #[.int .i64 s.unit, .int .i64 s.band, .bool s.seen, .int .i64 s.last, .int .i64 s.next, .slice a' s.wait.length k', .int .i64 s.drops, .int .i64 m.seq, .slice b' m.notes.length l', .int .i64 m.gaps, .int .i64 cd] 32) := ⟨_, rfl⟩
  have HB : Hid (Below w.heap.size w W) := by show Below _ _ _; rw [hW]; exact ((Below.refl _ _).alloc (Nat.le_refl _) _).alloc (by simp) _
  have RA : Hid (W.rowIs w.heap.size 32 11 (rowN (loL s m a k b l cd))) := by show W.rowIs _ _ _ _; rw [hW]; exact nrow_below (rowN_alloc w (loL s m a k b l cd) _) (nbel_alloc _ _)
  have RO : Hid (W.rowIs (w.heap.size + 1) 32 11 (rowN (loL s m a' k' b' l' cd))) := by show W.rowIs _ _ _ _; rw [hW]; exact rowN_alloc' (by simp) (loL s m a' k' b' l' cd) _
  have H1 := Lib.hid h1
  have H2 := Lib.hid h2
  have H3 := Lib.hid h3
  have H4 := Lib.hid h4
  have HW := Lib.hid hW
  clear hW h1 h2 h3 h4
  obtain ⟨⟨x0, x1, x2, x3, x4, x5, x6, x7, x8, x9, x10⟩, _⟩ := rowN11 RA.out
  obtain ⟨⟨y0, y1, y2, y3, y4, y5, y6, y7, y8, y9, y10⟩, _⟩ := rowN11 RO.out
  rw [HW.out] at x0 x1 x2 x3 x4 x5 x6 x7 x8 x9 x10 y0 y1 y2 y3 y4 y5 y6 y7 y8 y9 y10
  go_enter Tryz.func11, Tryz.ntmps11
  go_wp2_with fail
  rw [← HW.out]
  clear HW x0 x1 x2 x3 x4 x5 x6 x7 x8 x9 x10 y0 y1 y2 y3 y4 y5 y6 y7 y8 y9 y10
  refine (eqStation_same s a a' k k' _ (H1.out.below HB.out) (H3.out.below HB.out) hn).mono ?_
  rintro e w1 ⟨rfl, hb1⟩
  have RA1 := Lib.hid (nrow_below RA.out hb1)
  have RO1 := Lib.hid (nrow_below RO.out hb1)
  have HB1 : Hid (Below w.heap.size w w1) := HB.out.trans (hb1.mono HB.out.size)
  clear hb1 RA RO HB
  obtain ⟨⟨x0, x1, x2, x3, x4, x5, x6, x7, x8, x9, x10⟩, _⟩ := rowN11 RA1.out
  obtain ⟨⟨y0, y1, y2, y3, y4, y5, y6, y7, y8, y9, y10⟩, _⟩ := rowN11 RO1.out
  go_wp2_with fail
  clear x0 x1 x2 x3 x4 x5 x6 x7 x8 x9 x10 y0 y1 y2 y3 y4 y5 y6 y7 y8 y9 y10
  refine (eqMaster_same m b b' l l' _ (H2.out.below HB1.out) (H4.out.below HB1.out) hm).mono ?_
  rintro e w2 ⟨rfl, hb2⟩
  have RA2 := Lib.hid (nrow_below RA1.out hb2)
  have RO2 := Lib.hid (nrow_below RO1.out hb2)
  have HB2 : Hid (Below w.heap.size w w2) := HB1.out.trans (hb2.mono HB1.out.size)
  clear hb2 RA1 RO1 HB1
  obtain ⟨⟨x0, x1, x2, x3, x4, x5, x6, x7, x8, x9, x10⟩, _⟩ := rowN11 RA2.out
  obtain ⟨⟨y0, y1, y2, y3, y4, y5, y6, y7, y8, y9, y10⟩, _⟩ := rowN11 RO2.out
  go_wp2_with fail
  go_ret
  exact ⟨rfl, HB2.out⟩
set_option maxRecDepth 100000 in
set_option maxHeartbeats 4000000 in
theorem markLinkOut_any (s : Ln.S) (m : Ln.M) {B c d : Nat} {a b : Option Addr} {f g : Nat → Int} (cd : Int) (w : World) (h1 : NqOwn 37 B s.wait.length a f w) (h2 : NqOwn 37 B m.notes.length b g w) (dj : ∀ g o g' o', s.wait.length ≠ 0 → m.notes.length ≠ 0 → a = some ⟨g, o, none⟩ → b = some ⟨g', o', none⟩ → g ≠ g') (hn : s.wait.length ≤ 1048576) (hm : m.notes.length ≤ 1048576) (hB : B ≤ w.heap.size) :
    Calls Tryz.prog 14 #[loV s m a c b d cd, .int .i64 1] w fun e w' => e = .returned (.int .i64 ((1 + s.wait.length * 2 + m.notes.length * 2 : Nat) : Int)) ∧ NqOwn 37 B s.wait.length a (mk1 1) w' ∧ NqOwn 37 B m.notes.length b (mk1 (1 + s.wait.length * 2)) w' ∧ Below B w w' ∧ (∀ j T n F, w.rowIs j T n F → 37 ≠ T → w'.rowIs j T n F) := by
  obtain ⟨W, hW⟩ : ∃ W, W = w.alloc (.cells #[.int .i64 s.unit, .int .i64 s.band, .bool s.seen, .int .i64 s.last, .int .i64 s.next, .slice a s.wait.length c, .int .i64 s.drops, .int .i64 m.seq, .slice b m.notes.length d, .int .i64 m.gaps, .int .i64 cd] 32) := ⟨_, rfl⟩
  have HB : Hid (Below w.heap.size w W) := by show Below _ _ _; rw [hW]; exact nbel_alloc _ _
  have RA : Hid (W.rowIs w.heap.size 32 11 (rowN (loL s m a c b d cd))) := by show W.rowIs _ _ _ _; rw [hW]; exact rowN_alloc w (loL s m a c b d cd) _
  have H1 := Lib.hid (h1.below HB.out)
  have H2 := Lib.hid (h2.below HB.out)
  have DJ := Lib.hid dj
  have HBW : Hid (B ≤ W.heap.size) := Nat.le_trans hB HB.out.size
  have HP : Hid (Below B w W) := HB.out.mono hB
  have HQ0 : Hid (∀ j T n F, w.rowIs j T n F → 37 ≠ T → W.rowIs j T n F) := fun j T n F h _ => nrow_below h HB.out
  have HW := Lib.hid hW
  clear hW h1 h2 dj HB
  obtain ⟨⟨x0, x1, x2, x3, x4, x5, x6, x7, x8, x9, x10⟩, _⟩ := rowN11 RA.out
  rw [HW.out] at x0 x1 x2 x3 x4 x5 x6 x7 x8 x9 x10
  go_enter Tryz.func14, Tryz.ntmps14
  go_wp2_with fail
  rw [← HW.out]
  clear HW x0 x1 x2 x3 x4 x5 x6 x7 x8 x9 x10
  refine (markStation_any s 1 _ H1.out hn (by omega) HBW.out).mono ?_
  rintro e w1 ⟨rfl, hm1, hb1, hr1, hj1⟩
  have M1 := Lib.hid hm1
  have M2 : Hid (NqOwn 37 B m.notes.length b g w1) := H2.out.blk (fun x o h e => hj1 x (H2.out.lt x o h e) (fun h0 o' e' => DJ.out x o' x o h0 h e' e rfl))
  have P1 : Hid (Below B w w1) := HP.out.trans hb1
  have Q1 : Hid (∀ j T n F, w.rowIs j T n F → 37 ≠ T → w1.rowIs j T n F) := fun j T n F h h' => hr1 j T n F (HQ0.out j T n F h h') h'
  have RA1 := Lib.hid (hr1 _ _ _ _ RA.out (by decide))
  have HBW1 : Hid (B ≤ w1.heap.size) := Nat.le_trans HBW.out hb1.size
  clear hm1 hb1 hr1 hj1 H1 H2 HP HQ0 RA HBW
  obtain ⟨K, hK⟩ : ∃ K : Nat, K = 1 + s.wait.length * 2 := ⟨_, rfl⟩
  have hK2 : K ≤ 4194304 := by omega
  have HK := Lib.hid hK
  rw [← hK]
  clear hK
  obtain ⟨⟨x0, x1, x2, x3, x4, x5, x6, x7, x8, x9, x10⟩, _⟩ := rowN11 RA1.out
  go_wp2_with fail
  clear x0 x1 x2 x3 x4 x5 x6 x7 x8 x9 x10
  refine (markMaster_any m K _ M2.out hm hK2 HBW1.out).mono ?_
  rintro e w2 ⟨rfl, hm2, hb2, hr2, hj2⟩
  have M3 : Hid (NqOwn 37 B s.wait.length a (mk1 1) w2) := M1.out.blk (fun x o h e => hj2 x (M1.out.lt x o h e) (fun h0 o' e' => DJ.out x o x o' h h0 e e' rfl))
  have M4 := Lib.hid hm2
  have P2 : Hid (Below B w w2) := P1.out.trans hb2
  have Q2 : Hid (∀ j T n F, w.rowIs j T n F → 37 ≠ T → w2.rowIs j T n F) := fun j T n F h h' => hr2 j T n F (Q1.out j T n F h h') h'
  clear hm2 hb2 hr2 hj2 M1 M2 P1 Q1 RA1
  obtain ⟨Q, hQ⟩ : ∃ Q : Nat, Q = K + m.notes.length * 2 := ⟨_, rfl⟩
  have HQ := Lib.hid hQ
  rw [← hQ]
  clear hQ
  go_wp2_with fail
  go_ret
  exact ⟨by rw [← HK.out, ← HQ.out]; rfl, M3.out, by rw [← HK.out]; exact M4.out, P2.out, Q2.out⟩
set_option maxRecDepth 100000 in
set_option maxHeartbeats 4000000 in
theorem heldLinkOut_any (s : Ln.S) (m : Ln.M) {B c d : Nat} {a b : Option Addr} (cd : Int) (w : World) (h1 : NqOwn 37 B s.wait.length a (mk1 1) w) (h2 : NqOwn 37 B m.notes.length b (mk1 (1 + s.wait.length * 2)) w) (hn : s.wait.length ≤ 1048576) (hm : m.notes.length ≤ 1048576) :
    Calls Tryz.prog 15 #[loV s m a c b d cd, .int .i64 1] w fun e w' => e = .returned (.int .i64 ((1 + s.wait.length * 2 + m.notes.length * 2 : Nat) : Int)) ∧ Below w.heap.size w w' := by
  obtain ⟨W, hW⟩ : ∃ W, W = w.alloc (.cells #[.int .i64 s.unit, .int .i64 s.band, .bool s.seen, .int .i64 s.last, .int .i64 s.next, .slice a s.wait.length c, .int .i64 s.drops, .int .i64 m.seq, .slice b m.notes.length d, .int .i64 m.gaps, .int .i64 cd] 32) := ⟨_, rfl⟩
  have HB : Hid (Below w.heap.size w W) := by show Below _ _ _; rw [hW]; exact nbel_alloc _ _
  have RA : Hid (W.rowIs w.heap.size 32 11 (rowN (loL s m a c b d cd))) := by show W.rowIs _ _ _ _; rw [hW]; exact rowN_alloc w (loL s m a c b d cd) _
  have H1 := Lib.hid (h1.below HB.out)
  have H2 := Lib.hid (h2.below HB.out)
  have HW := Lib.hid hW
  clear hW h1 h2
  obtain ⟨⟨x0, x1, x2, x3, x4, x5, x6, x7, x8, x9, x10⟩, _⟩ := rowN11 RA.out
  rw [HW.out] at x0 x1 x2 x3 x4 x5 x6 x7 x8 x9 x10
  go_enter Tryz.func15, Tryz.ntmps15
  go_wp2_with fail
  rw [← HW.out]
  clear HW x0 x1 x2 x3 x4 x5 x6 x7 x8 x9 x10
  refine (heldStation_any s 1 _ H1.out hn (by omega)).mono ?_
  rintro e w1 ⟨rfl, hb1⟩
  have RA1 := Lib.hid (nrow_below RA.out hb1)
  have H21 := Lib.hid (H2.out.below hb1)
  have HB1 : Hid (Below w.heap.size w w1) := HB.out.trans (hb1.mono HB.out.size)
  clear hb1 RA H1 H2 HB
  obtain ⟨K, hK⟩ : ∃ K : Nat, K = 1 + s.wait.length * 2 := ⟨_, rfl⟩
  have hK2 : K ≤ 4194304 := by omega
  have hK0 : ¬ (K : Int) < 0 := by omega
  have HK := Lib.hid hK
  rw [← hK] at H21 ⊢
  clear hK
  obtain ⟨⟨x0, x1, x2, x3, x4, x5, x6, x7, x8, x9, x10⟩, _⟩ := rowN11 RA1.out
  go_wp2_with fail
  clear x0 x1 x2 x3 x4 x5 x6 x7 x8 x9 x10
  refine (heldMaster_any m K _ H21.out hm hK2).mono ?_
  rintro e w2 ⟨rfl, hb2⟩
  have HB2 : Hid (Below w.heap.size w w2) := HB1.out.trans (hb2.mono HB1.out.size)
  clear hb2 RA1 H21 HB1
  obtain ⟨Q, hQ⟩ : ∃ Q : Nat, Q = K + m.notes.length * 2 := ⟨_, rfl⟩
  have hQ0 : ¬ (Q : Int) < 0 := by omega
  have HQ := Lib.hid hQ
  rw [← hQ]
  clear hQ
  go_wp2_with fail
  go_ret
  exact ⟨by rw [← HK.out, ← HQ.out]; rfl, HB2.out⟩
end Go.Proofs.YtighcbpcclifoaaGreatDoor
namespace Go.Proofs.YtighcbpcclifoaaGreatDoor
open Go.RowKit Go.Deep

namespace LinkRunS
structure LrS (S : Ln.S) (M : Ln.M) (c : Int) (s8 : Nat) (a5 : Option Addr) (k5 : Nat) (b5 : Option Addr) (l5 g9 n s10 h10 : Nat) (a6 : Option Addr) (k6 : Nat) (b6 : Option Addr) (l6 : Nat) (F A B : Nat → Int) (w W : World) : Prop where
  r8 : W.rowIs s8 32 11 (rowN (loL S M a5 k5 b5 l5 c))
  t8 : NqOwn 37 w.heap.size S.wait.length a5 (Ln.fl S.wait) W
  u8 : NqOwn 37 w.heap.size M.notes.length b5 (Ln.fl M.notes) W
  k9 : IsBlk 35 g9 (n * 2) F W
  r10 : W.rowIs s10 32 11 (rowN (loL S M a6 k6 b6 l6 c))
  t10 : NqOwn 37 h10 S.wait.length a6 A W
  u10 : NqOwn 37 h10 M.notes.length b6 B W
  o : w.heap.size ≤ g9 ∧ s8 < g9 ∧ g9 < h10 ∧ h10 ≤ s10 ∧ h10 ≤ W.heap.size
  o1 : ∀ g o, S.wait.length ≠ 0 → a5 = some ⟨g, o, none⟩ → g < g9
  o2 : ∀ g o, M.notes.length ≠ 0 → b5 = some ⟨g, o, none⟩ → g < g9
  dj : ∀ g o g' o', S.wait.length ≠ 0 → M.notes.length ≠ 0 → a6 = some ⟨g, o, none⟩ → b6 = some ⟨g', o', none⟩ → g ≠ g'
  bel : Below w.heap.size w W
section
variable {S : Ln.S} {M : Ln.M} {c : Int} {s8 : Nat} {a5 : Option Addr} {k5 : Nat} {b5 : Option Addr} {l5 g9 n s10 h10 : Nat} {a6 : Option Addr} {k6 : Nat} {b6 : Option Addr} {l6 : Nat} {F F' A A' B B' : Nat → Int} {w W W' : World}
theorem LrS.below (h : LrS S M c s8 a5 k5 b5 l5 g9 n s10 h10 a6 k6 b6 l6 F A B w W) (hb : Below W.heap.size W W') : LrS S M c s8 a5 k5 b5 l5 g9 n s10 h10 a6 k6 b6 l6 F A B w W' :=
  ⟨nrow_below h.r8 hb, h.t8.below hb, h.u8.below hb, h.k9.below hb, nrow_below h.r10 hb, h.t10.below hb, h.u10.below hb, ⟨h.o.1, h.o.2.1, h.o.2.2.1, h.o.2.2.2.1, Nat.le_trans h.o.2.2.2.2 hb.size⟩, h.o1, h.o2, h.dj, h.bel.trans (hb.mono h.bel.size)⟩
theorem LrS.markX (h : LrS S M c s8 a5 k5 b5 l5 g9 n s10 h10 a6 k6 b6 l6 F A B w W) (hk : IsBlk 35 g9 (n * 2) F' W') (ho : Only g9 W W') : LrS S M c s8 a5 k5 b5 l5 g9 n s10 h10 a6 k6 b6 l6 F' A B w W' := by
  obtain ⟨q1, q2, q3, q4, q5⟩ := h.o
  exact ⟨h.r8.of_block (ho.block _ h.r8.lt (by omega)), h.t8.off (C := g9) h.o1 (fun k hk hl => ho.block k hl (by omega)), h.u8.off (C := g9) h.o2 (fun k hk hl => ho.block k hl (by omega)), hk, h.r10.of_block (ho.block _ h.r10.lt (by omega)), h.t10.same (fun k hk hl => ho.block k hl (by omega)), h.u10.same (fun k hk hl => ho.block k hl (by omega)), ⟨q1, q2, q3, q4, Nat.le_trans q5 ho.size⟩, h.o1, h.o2, h.dj, h.bel.trans (ho.below q1 h.bel.size)⟩
theorem LrS.markG (h : LrS S M c s8 a5 k5 b5 l5 g9 n s10 h10 a6 k6 b6 l6 F A B w W) (ha : NqOwn 37 h10 S.wait.length a6 A' W') (hb' : NqOwn 37 h10 M.notes.length b6 B' W') (hb : Below h10 W W') (hr : ∀ j T n F, W.rowIs j T n F → 37 ≠ T → W'.rowIs j T n F) : LrS S M c s8 a5 k5 b5 l5 g9 n s10 h10 a6 k6 b6 l6 F A' B' w W' := by
  obtain ⟨q1, q2, q3, q4, q5⟩ := h.o
  obtain ⟨m0, F0, e1, e2, e3⟩ := h.k9
  exact ⟨hr _ _ _ _ h.r8 (by decide), h.t8.off (C := h10) (fun g o e1 e2 => by have := h.o1 g o e1 e2; omega) (fun k hk _ => hb.block k hk), h.u8.off (C := h10) (fun g o e1 e2 => by have := h.o2 g o e1 e2; omega) (fun k hk _ => hb.block k hk), ⟨m0, F0, e1, hr _ _ _ _ e2 (by decide), e3⟩, hr _ _ _ _ h.r10 (by decide), ha, hb', ⟨q1, q2, q3, q4, Nat.le_trans q5 hb.size⟩, h.o1, h.o2, h.dj, h.bel.trans (hb.mono (by omega))⟩
end
end LinkRunS
open LinkRunS in
set_option maxRecDepth 100000 in
set_option maxHeartbeats 16000000 in
theorem linkRun_law (w : World) (u b : Int) (la : Option Addr) (n lc : Nat) (f : Nat → Int) (h : IsIn la (n * 2) f w) (hl : n ≤ 9223372036854775807) (hg : LnG w) :
    Calls Tryz.prog 5 #[.int .i64 u, .int .i64 b, .slice la n lc] w fun e w' => e = .returned (.bool true) ∧ Below w.heap.size w w' := by
  have H := Lib.hid h
  have HG := Lib.hid hg
  clear h hg
  obtain ⟨S, hS⟩ : ∃ S, S = Ln.lst u b f n := ⟨_, rfl⟩
  obtain ⟨M, hM⟩ : ∃ M, M = Ln.lma u b f n := ⟨_, rfl⟩
  obtain ⟨c, hc⟩ : ∃ c, c = Ln.lcode u b f n := ⟨_, rfl⟩
  have HS := Lib.hid hS
  have HM := Lib.hid hM
  have HC := Lib.hid hc
  have HL1 : Hid (S.wait.length ≤ 1048576) := by show _ ≤ _; rw [hS]; exact Ln.lst_len u b f n
  have HL2 : Hid (M.notes.length ≤ 1048576) := by show _ ≤ _; rw [hM]; exact Ln.lma_len u b f n
  clear hS hM hc
  go_enter Tryz.func5, Tryz.ntmps5
  go_wp2_with fail
  by_cases hz : n ≤ 1048576
  case neg =>
    refine (nszEvent_over la n lc 1048576 _ (by omega) (by omega) hl).mono ?_
    rintro e w1 ⟨rfl, rfl⟩
    go_wp2_with fail
    go_ret
    exact ⟨rfl, Below.refl _ _⟩
  refine (nszEvent_in la n lc 1048576 _ hz (by omega)).mono ?_
  rintro e w1 ⟨rfl, rfl⟩
  have hz0 : ¬ ((1048576 - n : Nat) : Int) < 0 := by omega
  go_wp2_with fail
  clear hz0
  refine (ntoEventS_any la n lc f _ H.out hz).mono ?_
  rintro e w2 ⟨⟨rfl, hk⟩, hb⟩
  have K2 := Lib.hid hk
  have B2 : Hid (Below w1.heap.size w1 w2) := hb
  clear hk hb
  go_wp2_with fail
  refine (specRun_any u b _ n n f _ K2.out.at_.in_ hz).mono ?_
  rintro e w3 ⟨hE, hb⟩
  rw [← HS.out, ← HM.out, ← HC.out] at hE
  obtain ⟨a5, k5, b5, l5, rfl, ho1, ho2, _⟩ := hE
  obtain ⟨W3, hW3⟩ : ∃ W3, W3 = w3.alloc (.cells #[.int .i64 S.unit, .int .i64 S.band, .bool S.seen, .int .i64 S.last, .int .i64 S.next, .slice a5 S.wait.length k5, .int .i64 S.drops, .int .i64 M.seq, .slice b5 M.notes.length l5, .int .i64 M.gaps, .int .i64 c] 32) := ⟨_, rfl⟩
  have hb3 : Below w2.heap.size w2 W3 := hb.trans (by rw [hW3]; exact (nbel_alloc _ _).mono hb.size)
  have B3 : Hid (Below w1.heap.size w1 W3) := B2.out.trans (hb3.mono B2.out.size)
  have R83 : Hid (W3.rowIs w3.heap.size 32 11 (rowN (loL S M a5 k5 b5 l5 c))) := by show World.rowIs _ _ _ _ _; rw [hW3]; exact rowN_alloc w3 (loL S M a5 k5 b5 l5 c) _
  have T83 : Hid (NqOwn 37 w1.heap.size S.wait.length a5 (Ln.fl S.wait) W3) := by show NqOwn _ _ _ _ _ _; rw [hW3]; exact (ho1.low B2.out.size).below (nbel_alloc _ _)
  have U83 : Hid (NqOwn 37 w1.heap.size M.notes.length b5 (Ln.fl M.notes) W3) := by show NqOwn _ _ _ _ _ _; rw [hW3]; exact (ho2.low B2.out.size).below (nbel_alloc _ _)
  have HW3 := Lib.hid hW3
  obtain ⟨s8, hs8⟩ : ∃ s, s = w3.heap.size := ⟨_, rfl⟩
  rw [← hs8] at R83
  have HS8 := Lib.hid hs8
  clear hb hb3 ho1 ho2 hW3 hs8 B2 K2
  go_wp2_with fail
  rw [← HW3.out, ← HS8.out]
  clear HW3 HS8
  refine (ntoEventS_any la n lc f _ (H.out.below B3.out) hz).mono ?_
  rintro e w4 ⟨⟨rfl, hk⟩, hb⟩
  obtain ⟨g9, hg9⟩ : ∃ g, g = W3.heap.size := ⟨_, rfl⟩
  rw [← hg9] at hk ⊢
  have K9 := Lib.hid hk
  have R84 := Lib.hid (nrow_below R83.out hb)
  have T84 := Lib.hid (T83.out.below hb)
  have U84 := Lib.hid (U83.out.below hb)
  have B4 : Hid (Below w1.heap.size w1 w4) := B3.out.trans (hb.mono B3.out.size)
  have O9 : Hid (w1.heap.size ≤ g9 ∧ s8 < g9) := by show _ ∧ _; rw [hg9]; exact ⟨B3.out.size, R83.out.lt⟩
  have O1 : Hid (∀ g o, S.wait.length ≠ 0 → a5 = some ⟨g, o, none⟩ → g < g9) := fun g o h0 e => by rw [hg9]; exact T83.out.lt g o h0 e
  have O2 : Hid (∀ g o, M.notes.length ≠ 0 → b5 = some ⟨g, o, none⟩ → g < g9) := fun g o h0 e => by rw [hg9]; exact U83.out.lt g o h0 e
  clear hk hb hg9 R83 T83 U83 B3
  go_wp2_with fail
  refine (implRun_any u b _ n n f _ K9.out.at_.in_ (HG.out.below B4.out)).mono ?_
  rintro e w5 ⟨hE, hb⟩
  rw [← HS.out, ← HM.out, ← HC.out] at hE
  obtain ⟨a6, k6, b6, l6, rfl, ho1, ho2, hdj⟩ := hE
  obtain ⟨W5, hW5⟩ : ∃ W5, W5 = w5.alloc (.cells #[.int .i64 S.unit, .int .i64 S.band, .bool S.seen, .int .i64 S.last, .int .i64 S.next, .slice a6 S.wait.length k6, .int .i64 S.drops, .int .i64 M.seq, .slice b6 M.notes.length l6, .int .i64 M.gaps, .int .i64 c] 32) := ⟨_, rfl⟩
  obtain ⟨s10, hs10⟩ : ∃ s, s = w5.heap.size := ⟨_, rfl⟩
  obtain ⟨h10, hh10⟩ : ∃ s, s = w4.heap.size := ⟨_, rfl⟩
  have hb5 : Below w4.heap.size w4 W5 := hb.trans (by rw [hW5]; exact (nbel_alloc _ _).mono hb.size)
  rw [← hh10] at ho1 ho2
  have LS0 : Hid (LrS S M c s8 a5 k5 b5 l5 g9 n s10 h10 a6 k6 b6 l6 f (Ln.fl S.wait) (Ln.fl M.notes) w1 W5) := by
    refine ⟨nrow_below R84.out hb5, T84.out.below hb5, U84.out.below hb5, K9.out.below hb5, by rw [hW5, hs10]; exact rowN_alloc w5 (loL S M a6 k6 b6 l6 c) _, by rw [hW5]; exact ho1.below (nbel_alloc _ _), by rw [hW5]; exact ho2.below (nbel_alloc _ _), ⟨O9.out.1, O9.out.2, by rw [hh10]; exact K9.out.lt, by rw [hh10, hs10]; exact hb.size, by rw [hh10]; exact hb5.size⟩, O1.out, O2.out, hdj, B4.out.trans (hb5.mono B4.out.size)⟩
  have HW5 := Lib.hid hW5
  have HS10 := Lib.hid hs10
  clear hb hb5 ho1 ho2 hdj hW5 hs10 hh10 R84 T84 U84 B4 K9 O9 O1 O2
  obtain ⟨⟨y0, y1, y2, y3, y4, y5, y6, y7, y8, y9, y10⟩, _⟩ := rowN11 LS0.out.r10
  obtain ⟨⟨x0, x1, x2, x3, x4, x5, x6, x7, x8, x9, x10⟩, _⟩ := rowN11 LS0.out.r8
  rw [HW5.out, HS10.out] at y0 y1 y2 y3 y4 y5 y6 y7 y8 y9 y10
  rw [HW5.out] at x0 x1 x2 x3 x4 x5 x6 x7 x8 x9 x10
  go_wp2_with fail
  rw [← HW5.out, ← HS10.out]
  clear HW5 HS10 y0 y1 y2 y3 y4 y5 y6 y7 y8 y9 y10 x0 x1 x2 x3 x4 x5 x6 x7 x8 x9 x10
  refine (eqLinkOut_same S M a6 b6 a5 b5 k6 l6 k5 l5 c _ LS0.out.t10.in_ LS0.out.u10.in_ LS0.out.t8.in_ LS0.out.u8.in_ HL1.out HL2.out).mono ?_
  rintro e w6 ⟨rfl, hb⟩
  have LS1 := Lib.hid (LS0.out.below hb)
  clear hb LS0
  go_wp2_with fail
  refine (ntoEventS_any la n lc f _ (H.out.below LS1.out.bel) hz).mono ?_
  rintro e w7 ⟨⟨rfl, hk⟩, hb⟩
  have LS2 := Lib.hid (LS1.out.below hb)
  have K7 := Lib.hid hk
  clear hk hb LS1
  go_wp2_with fail
  refine (neqEventS_same _ _ n _ _ f _ LS2.out.k9.at_ K7.out.at_ hz).mono ?_
  rintro e w8 ⟨rfl, hb⟩
  have LS3 := Lib.hid (LS2.out.below hb)
  clear hb LS2 K7
  go_wp2_with fail
  refine (nmarkEventS_any g9 n _ 1 f _ LS3.out.k9 hz (by omega)).mono ?_
  rintro e w9 ⟨rfl, hk, ho⟩
  have LS4 := Lib.hid (LS3.out.markX hk ho)
  clear hk ho LS3
  obtain ⟨K, hK⟩ : ∃ K : Nat, K = 1 + n * 2 := ⟨_, rfl⟩
  rw [← hK]
  have hK0 : ¬ (K : Int) < 0 := by omega
  clear hK
  obtain ⟨⟨y0, y1, y2, y3, y4, y5, y6, y7, y8, y9, y10⟩, _⟩ := rowN11 LS4.out.r10
  obtain ⟨⟨x0, x1, x2, x3, x4, x5, x6, x7, x8, x9, x10⟩, _⟩ := rowN11 LS4.out.r8
  go_wp2_with fail
  clear y0 y1 y2 y3 y4 y5 y6 y7 y8 y9 y10 x0 x1 x2 x3 x4 x5 x6 x7 x8 x9 x10
  refine (eqLinkOut_same S M a6 b6 a5 b5 k6 l6 k5 l5 c _ LS4.out.t10.in_ LS4.out.u10.in_ LS4.out.t8.in_ LS4.out.u8.in_ HL1.out HL2.out).mono ?_
  rintro e w10 ⟨rfl, hb⟩
  have LS5 := Lib.hid (LS4.out.below hb)
  clear hb LS4 hK0
  obtain ⟨⟨y0, y1, y2, y3, y4, y5, y6, y7, y8, y9, y10⟩, _⟩ := rowN11 LS5.out.r10
  go_wp2_with fail
  clear y0 y1 y2 y3 y4 y5 y6 y7 y8 y9 y10
  refine (markLinkOut_any S M c _ LS5.out.t10 LS5.out.u10 LS5.out.dj HL1.out HL2.out LS5.out.o.2.2.2.2).mono ?_
  rintro e w11 ⟨rfl, hm1, hm2, hb, hr⟩
  have LS6 := Lib.hid (LS5.out.markG hm1 hm2 hb hr)
  clear hm1 hm2 hb hr LS5
  obtain ⟨Q, hQ⟩ : ∃ Q : Nat, Q = 1 + S.wait.length * 2 + M.notes.length * 2 := ⟨_, rfl⟩
  have HQ : Hid (1 + S.wait.length * 2 + M.notes.length * 2 = Q) := hQ.symm
  rw [← hQ]
  have hQ0 : ¬ (Q : Int) < 0 := by omega
  have hQQ : ((Q : Int) != (Q : Int)) = false := by simp
  clear hQ
  obtain ⟨⟨y0, y1, y2, y3, y4, y5, y6, y7, y8, y9, y10⟩, _⟩ := rowN11 LS6.out.r10
  go_wp2_with fail
  clear y0 y1 y2 y3 y4 y5 y6 y7 y8 y9 y10
  refine (heldLinkOut_any S M c _ LS6.out.t10 LS6.out.u10 HL1.out HL2.out).mono ?_
  rintro e w12 ⟨rfl, hb⟩
  rw [HQ.out]
  have LS7 := Lib.hid (LS6.out.below hb)
  clear hb LS6
  go_wp2_with fail
  refine (ntoEventS_any la n lc f _ (H.out.below LS7.out.bel) hz).mono ?_
  rintro e w13 ⟨⟨rfl, hk⟩, hb⟩
  have LS8 := Lib.hid (LS7.out.below hb)
  have K13 := Lib.hid hk
  clear hk hb LS7
  go_wp2_with fail
  refine (implRun_any u b _ n n f _ K13.out.at_.in_ (HG.out.below LS8.out.bel)).mono ?_
  rintro e w14 ⟨hE, hb⟩
  rw [← HS.out, ← HM.out, ← HC.out] at hE
  obtain ⟨a9, k9, b9, l9, rfl, ho1, ho2, _⟩ := hE
  obtain ⟨W14, hW14⟩ : ∃ W, W = w14.alloc (.cells #[.int .i64 S.unit, .int .i64 S.band, .bool S.seen, .int .i64 S.last, .int .i64 S.next, .slice a9 S.wait.length k9, .int .i64 S.drops, .int .i64 M.seq, .slice b9 M.notes.length l9, .int .i64 M.gaps, .int .i64 c] 32) := ⟨_, rfl⟩
  have hb14 : Below w13.heap.size w13 W14 := hb.trans (by rw [hW14]; exact (nbel_alloc _ _).mono hb.size)
  have LS9 := Lib.hid (LS8.out.below hb14)
  have T14 : Hid (NqOwn 37 w13.heap.size S.wait.length a9 (Ln.fl S.wait) W14) := by show NqOwn _ _ _ _ _ _; rw [hW14]; exact ho1.below (nbel_alloc _ _)
  have U14 : Hid (NqOwn 37 w13.heap.size M.notes.length b9 (Ln.fl M.notes) W14) := by show NqOwn _ _ _ _ _ _; rw [hW14]; exact ho2.below (nbel_alloc _ _)
  have R14 : Hid (W14.rowIs w14.heap.size 32 11 (rowN (loL S M a9 k9 b9 l9 c))) := by show World.rowIs _ _ _ _ _; rw [hW14]; exact rowN_alloc w14 (loL S M a9 k9 b9 l9 c) _
  have HW14 := Lib.hid hW14
  clear hb hb14 ho1 ho2 hW14 LS8 K13
  obtain ⟨⟨y0, y1, y2, y3, y4, y5, y6, y7, y8, y9, y10⟩, _⟩ := rowN11 R14.out
  obtain ⟨⟨x0, x1, x2, x3, x4, x5, x6, x7, x8, x9, x10⟩, _⟩ := rowN11 LS9.out.r8
  rw [HW14.out] at y0 y1 y2 y3 y4 y5 y6 y7 y8 y9 y10 x0 x1 x2 x3 x4 x5 x6 x7 x8 x9 x10
  go_wp2_with fail
  rw [← HW14.out]
  clear HW14 y0 y1 y2 y3 y4 y5 y6 y7 y8 y9 y10 x0 x1 x2 x3 x4 x5 x6 x7 x8 x9 x10
  refine (eqLinkOut_same S M a9 b9 a5 b5 k9 l9 k5 l5 c _ T14.out.in_ U14.out.in_ LS9.out.t8.in_ LS9.out.u8.in_ HL1.out HL2.out).mono ?_
  rintro e w15 ⟨rfl, hb⟩
  have LS10 := Lib.hid (LS9.out.below hb)
  clear hb LS9 T14 U14 R14
  obtain ⟨⟨y0, y1, y2, y3, y4, y5, y6, y7, y8, y9, y10⟩, _⟩ := rowN11 LS10.out.r10
  go_wp2_with fail
  clear y0 y1 y2 y3 y4 y5 y6 y7 y8 y9 y10
  refine (heldLinkOut_any S M c _ LS10.out.t10 LS10.out.u10 HL1.out HL2.out).mono ?_
  rintro e w16 ⟨rfl, hb⟩
  rw [HQ.out]
  have LS11 := Lib.hid (LS10.out.below hb)
  clear hb LS10
  go_wp2_with fail
  go_ret
  exact ⟨rfl, LS11.out.bel⟩
end Go.Proofs.YtighcbpcclifoaaGreatDoor
