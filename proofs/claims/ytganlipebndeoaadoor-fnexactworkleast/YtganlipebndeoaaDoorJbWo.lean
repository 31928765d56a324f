/-
  The laws' comparisons and marks of plans' answers.
-/
import Derived.Test.YtganlipebndeoaaDoorNtEx1
import Derived.Test.YtganlipebndeoaaDoorBiLs
namespace Go.Proofs.YtganlipebndeoaaDoor
open Go.RowKit Go.Deep

/-- The value of a plan's answer. -/
abbrev wo2 (ed cd : Int) (n : Nat) (a : Option Addr) (k : Nat) : Value := .agg #[.slice a n k, .int .i64 ed, .int .i64 cd]
theorem LsOwn.kept {T : TypeId} {s B N c : Nat} {a : Option Addr} {f : Nat → Int} {W W' : World} (h : LsOwn T s B N a c f W) (hb : ∀ k, a = some ⟨k, 0, none⟩ → k < W.heap.size → W'.heap[k]? = W.heap[k]?) : LsOwn T s B N a c f W' := by
  rcases h with h | ⟨g, e, h1, h2⟩
  · exact Or.inl h
  · exact Or.inr ⟨g, e, h1, h2.block (hb g e h2.lt)⟩
theorem jhs2 (w : World) (g k : Nat) (h : g ≠ k) (i : Nat) (v : Value) : (w.setCell ⟨k, i, none⟩ v).heap[g]? = w.heap[g]? := Below.heap_setCell _ _ _ _ (by show g ≠ k; exact h)
/-- An answer in a block, its list elsewhere. -/
structure WoM (b B n : Nat) (a : Option Addr) (k : Nat) (s : Nat → Int) (ed cd : Int) (W : World) : Prop where
  row : W.rowIs b 26 3 (rowN [.slice a n k, .int .i64 ed, .int .i64 cd])
  ls : LsOwn 2 1 B n a k s W
theorem WoM.below {b B n : Nat} {a : Option Addr} {k : Nat} {s : Nat → Int} {ed cd : Int} {W W' : World} (h : WoM b B n a k s ed cd W) (hb : Below W.heap.size W W') : WoM b B n a k s ed cd W' := ⟨nrow_below h.row hb, h.ls.below hb⟩
theorem WoM.kept {b B n : Nat} {a : Option Addr} {k : Nat} {s : Nat → Int} {ed cd : Int} {W W' : World} (h : WoM b B n a k s ed cd W) (h1 : W'.heap[b]? = W.heap[b]?) (h2 : ∀ g, a = some ⟨g, 0, none⟩ → g < W.heap.size → W'.heap[g]? = W.heap[g]?) : WoM b B n a k s ed cd W' := ⟨h.row.of_block h1, h.ls.kept h2⟩
set_option maxRecDepth 100000 in
set_option maxHeartbeats 4000000 in
theorem eqWorkOut_same (ed cd : Int) (n : Nat) (L : Nat → Int) (a b : Option Addr) (ka kb : Nat) (w : World) (h1 : IsAt a n L w) (h2 : IsAt b n L w) (hn : n ≤ 1048576) :
    Calls Tryd.prog 8 #[wo2 ed cd n a ka, wo2 ed cd n b kb] w fun e w' => e = .returned (.bool true) ∧ Below w.heap.size w w' := by
  obtain ⟨W, hW⟩ : ∃ W, W = (w.alloc (.cells #[.slice a n ka, .int .i64 ed, .int .i64 cd] 26)).alloc (.cells #[.slice b n kb, .int .i64 ed, .int .i64 cd] 26) := ⟨_, rfl⟩
  have hB : Below w.heap.size w W := by rw [hW]; exact ((Below.refl _ _).alloc (Nat.le_refl _) _).alloc (by simp) _
  have RA : W.rowIs w.heap.size 26 3 (rowN [.slice a n ka, .int .i64 ed, .int .i64 cd]) := by rw [hW]; exact nrow_below (rowN_alloc w _ _) (nbel_alloc _ _)
  have RO : W.rowIs (w.heap.size + 1) 26 3 (rowN [.slice b n kb, .int .i64 ed, .int .i64 cd]) := by rw [hW]; exact rowN_alloc' (by simp) _ _
  have HW := Lib.hid hW
  have HB := Lib.hid hB
  have H1 := Lib.hid h1
  have H2 := Lib.hid h2
  have HRA := Lib.hid RA
  have HRO := Lib.hid RO
  clear hW hB h1 h2 RA RO
  go_enter Tryd.func8, Tryd.ntmps8
  go_wp2_with fail
  rw [← HW.out]
  refine (neqInt64S_same a b n ka kb L _ (H1.out.below HB.out) (H2.out.below HB.out) hn).mono ?_
  rintro e w1 ⟨rfl, hb1⟩
  obtain ⟨⟨x0, x1, x2⟩, _⟩ := rowN3 (nrow_below HRA.out hb1)
  obtain ⟨⟨y0, y1, y2⟩, _⟩ := rowN3 (nrow_below HRO.out hb1)
  have HB1 : Hid (Below w.heap.size w w1) := HB.out.trans (hb1.mono HB.out.size)
  clear hb1
  go_wp2_with fail
  go_ret
  exact ⟨rfl, HB1.out⟩
theorem imarkLs {B N c : Nat} {a : Option Addr} {f : Nat → Int} (w : World) (h : LsOwn 2 1 B N a c f w) (hn : N ≤ 1048576) :
    Calls Tryd.prog 22 #[.slice a N c, .int .i64 1] w fun e w' => e = .returned (.int .i64 ((1 + N : Nat) : Int)) ∧ LsOwn 2 1 B N a c (mk1 1) w' ∧ (∀ k, k < w.heap.size → a ≠ some ⟨k, 0, none⟩ → w'.heap[k]? = w.heap[k]?) ∧ w'.os = w.os ∧ w'.tape = w.tape ∧ w'.output = w.output ∧ w.heap.size ≤ w'.heap.size := by
  rcases h with ⟨rfl, rfl, rfl⟩ | ⟨g, rfl, h1, h2⟩
  · refine (nmarkInt64S_nil 1 w).mono ?_
    rintro e w' ⟨rfl, rfl⟩
    exact ⟨rfl, Or.inl ⟨rfl, rfl, rfl⟩, fun _ _ _ => rfl, rfl, rfl, rfl, Nat.le_refl _⟩
  · refine (nmarkInt64S_any g N c 1 f w (by simpa using h2) hn (by omega)).mono ?_
    rintro e w' ⟨rfl, hm, ho⟩
    exact ⟨rfl, Or.inr ⟨g, rfl, h1, (by simpa using hm)⟩, fun k hk hne => ho.block k hk (fun e => hne (by rw [e])), ho.os, ho.tape, ho.output, ho.size⟩
theorem iheldLs {B N c : Nat} {a : Option Addr} (w : World) (h : LsOwn 2 1 B N a c (mk1 1) w) (hn : N ≤ 1048576) :
    Calls Tryd.prog 23 #[.slice a N c, .int .i64 1] w fun e w' => e = .returned (.int .i64 ((1 + N : Nat) : Int)) ∧ w' = w := by
  rcases h with ⟨rfl, rfl, rfl⟩ | ⟨g, rfl, h1, h2⟩
  · exact nheldInt64S_nil 1 w
  · exact nheldInt64S_any g N c 1 w (by simpa using h2) hn (by omega)
set_option maxRecDepth 100000 in
set_option maxHeartbeats 2000000 in
theorem markWorkOut_any (ed cd : Int) (n : Nat) {B c : Nat} {a : Option Addr} {f : Nat → Int} (w : World) (h : LsOwn 2 1 B n a c f w) (hn : n ≤ 1048576) :
    Calls Tryd.prog 11 #[wo2 ed cd n a c, .int .i64 1] w fun e w' => e = .returned (.int .i64 ((1 + n : Nat) : Int)) ∧ LsOwn 2 1 B n a c (mk1 1) w' ∧ (∀ k, k < w.heap.size → a ≠ some ⟨k, 0, none⟩ → w'.heap[k]? = w.heap[k]?) ∧ w'.os = w.os ∧ w'.tape = w.tape ∧ w'.output = w.output ∧ w.heap.size ≤ w'.heap.size := by
  obtain ⟨W, hW⟩ : ∃ W, W = w.alloc (.cells #[.slice a n c, .int .i64 ed, .int .i64 cd] 26) := ⟨_, rfl⟩
  have HB : Hid (Below w.heap.size w W) := by show Below _ _ _; rw [hW]; exact nbel_alloc _ _
  have H := Lib.hid (h.below HB.out)
  have HW := Lib.hid hW
  clear hW h
  go_enter Tryd.func11, Tryd.ntmps11
  go_wp2_with fail
  rw [← HW.out]
  clear HW
  refine (imarkLs _ H.out hn).mono ?_
  rintro e w1 ⟨rfl, hm, hk, h1, h2, h3, h4⟩
  have HM := Lib.hid hm
  have HP : Hid ((∀ k, k < w.heap.size → a ≠ some ⟨k, 0, none⟩ → w1.heap[k]? = w.heap[k]?) ∧ w1.os = w.os ∧ w1.tape = w.tape ∧ w1.output = w.output ∧ w.heap.size ≤ w1.heap.size) := by
    have b := HB.out
    exact ⟨fun k hkk hne => (hk k (Nat.lt_of_lt_of_le hkk b.size) hne).trans (b.block k hkk), h1.trans b.os, h2.trans b.tape, h3.trans b.output, Nat.le_trans b.size h4⟩
  clear hm hk h1 h2 h3 h4
  obtain ⟨Q, hQ⟩ : ∃ Q : Nat, Q = 1 + n := ⟨_, rfl⟩
  rw [← hQ]
  have HQ := Lib.hid hQ
  clear hQ
  go_wp2_with fail
  go_ret
  exact ⟨by rw [← HQ.out]; rfl, HM.out, HP.out⟩
set_option maxRecDepth 100000 in
set_option maxHeartbeats 2000000 in
theorem heldWorkOut_any (ed cd : Int) (n : Nat) {B c : Nat} {a : Option Addr} (w : World) (h : LsOwn 2 1 B n a c (mk1 1) w) (hn : n ≤ 1048576) :
    Calls Tryd.prog 12 #[wo2 ed cd n a c, .int .i64 1] w fun e w' => e = .returned (.int .i64 ((1 + n : Nat) : Int)) ∧ Below w.heap.size w w' := by
  obtain ⟨W, hW⟩ : ∃ W, W = w.alloc (.cells #[.slice a n c, .int .i64 ed, .int .i64 cd] 26) := ⟨_, rfl⟩
  have HB : Hid (Below w.heap.size w W) := by show Below _ _ _; rw [hW]; exact nbel_alloc _ _
  have H := Lib.hid (h.below HB.out)
  have HW := Lib.hid hW
  clear hW h
  go_enter Tryd.func12, Tryd.ntmps12
  go_wp2_with fail
  rw [← HW.out]
  clear HW
  refine (iheldLs _ H.out hn).mono ?_
  rintro e w1 ⟨rfl, rfl⟩
  obtain ⟨Q, hQ⟩ : ∃ Q : Nat, Q = 1 + n := ⟨_, rfl⟩
  rw [← hQ]
  have hQ0 : ¬ (Q : Int) < 0 := by omega
  have HQ := Lib.hid hQ
  clear hQ
  go_wp2_with fail
  go_ret
  exact ⟨by rw [← HQ.out]; rfl, HB.out⟩
end Go.Proofs.YtganlipebndeoaaDoor
