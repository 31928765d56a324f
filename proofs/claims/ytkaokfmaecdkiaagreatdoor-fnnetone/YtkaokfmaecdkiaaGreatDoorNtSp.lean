/-
  The model's reckoning that keeps the first fault, and what stands in its walks.
-/
import Derived.Test.YtkaokfmaecdkiaaGreatDoorNtFlM
import Derived.Test.YtkaokfmaecdkiaaGreatDoorNtLs2
import Derived.Test.YtkaokfmaecdkiaaGreatDoorNtEx1
import Derived.Test.YtkaokfmaecdkiaaGreatDoorNtAs
import Derived.Deep.DeepCutAuto
namespace Go.Proofs.YtkaokfmaecdkiaaGreatDoor
open Go.RowKit Go.Deep

theorem Only.trans {g : Nat} {a b c : World} (h : Only g a b) (k : Only g b c) : Only g a c := ⟨k.os.trans h.os, k.tape.trans h.tape, k.output.trans h.output, Nat.le_trans h.size k.size, fun j hj he => (k.block j (Nat.lt_of_lt_of_le hj h.size) he).trans (h.block j hj he)⟩
namespace Fq
def tkz (q : Int × Int) (z : Int) : Int := if code q = 0 then z else 5
def tkv (q : Int × Int) : Int × Int := if code q = 0 then val q else (0, 1)
def Fit (q : Int × Int) : Prop := q.2 ≠ 0 ∧ q.1 ≠ -9223372036854775808 ∧ q.2 ≠ -9223372036854775808
theorem tkv_right {q : Int × Int} (h : Fit q) : R (tkv q) := by
  unfold tkv
  split
  · rename_i hc; exact val_right h.1 h.2.1 h.2.2 hc
  · exact (whole_ok (z := 0) (by omega) (by omega)).2.2.2
theorem tkv_ok {q : Int × Int} (h : code q = 0) : tkv q = val q := if_pos h
theorem tkz_ok {q : Int × Int} (h : code q = 0) (z : Int) : tkz q z = z := if_pos h
theorem tkz_five (q : Int × Int) : tkz q 5 = 5 := by unfold tkz; split <;> rfl
end Fq
set_option maxRecDepth 100000 in
set_option maxHeartbeats 2000000 in
theorem take_any (gc : Nat) (q : Int × Int) (z : Int) (w : World) (h : w.rowIs gc 59 1 (rowN [.int .i64 z])) :
    Calls Tryz.prog 24 #[.pointer (some ⟨gc, 0, none⟩), foV q] w fun e w' => e = .returned (frV (Fq.tkv q)) ∧ (w'.rowIs gc 59 1 (rowN [.int .i64 (Fq.tkz q z)]) ∧ Only gc w w') := by
  have hl := h.lt
  have c0 := h.cell (i := 0) (by omega)
  simp only [rowN, List.getD_cons_zero] at c0
  have f0 := h.frozen 0
  have H := Lib.hid h
  clear h
  by_cases hc : Fq.code q = 0
  · have e1 := Fq.tkv_ok hc
    have e2 := Fq.tkz_ok hc z
    rw [e1, e2]
    clear e1 e2
    unfold foV
    rw [hc]
    clear hc
    go_enter Tryz.func24, Tryz.ntmps24
    go_wp2_with fail
    exact bodyPost_ret (v := frV (Fq.val q)) (by simp [results, Tryz.results24, go_sem]) rfl ⟨rfl, nrow_below (nrow_below H.out (nbel_alloc _ _)) (nbel_alloc _ _), Only.of_below (((Below.refl _ _).alloc (Nat.le_refl _) _).alloc (by simp) _)⟩
  · have e1 : Fq.tkv q = (0, 1) := if_neg hc
    have e2 : Fq.tkz q z = 5 := if_neg hc
    rw [e1, e2]
    have hc' : (Fq.code q != 0) = true := by simp [hc]
    clear e1 e2 hc
    go_enter Tryz.func24, Tryz.ntmps24
    go_wp2_with fail
    exact bodyPost_ret (v := frV (0, 1)) (by simp [results, Tryz.results24, go_sem]) rfl ⟨rfl, nrow_below (nrow_below (rowN_put H.out 0 _ (by simp)) (nbel_alloc _ _)) (nbel_alloc _ _), ((Only.refl _ _).set 0 _).trans (Only.of_below (((Below.refl _ _).alloc (Nat.le_refl _) _).alloc (by simp) _))⟩
/-- The cells of fractions. -/
def frVs (f : Nat → Int × Int) (n : Nat) : List Value := (List.range n).flatMap (fun j => [.int .i64 (f j).1, .int .i64 (f j).2])
theorem frVs_succ (f : Nat → Int × Int) (n : Nat) : frVs f (n + 1) = frVs f n ++ [.int .i64 (f n).1, .int .i64 (f n).2] := by simp [frVs, List.range_succ]
theorem frVs_len (f : Nat → Int × Int) : ∀ n, (frVs f n).length = n * 2
  | 0 => rfl
  | n + 1 => by rw [frVs_succ, List.length_append, frVs_len f n]; simp; omega
theorem frVs_at (f : Nat → Int × Int) : ∀ n j, j < n * 2 → (frVs f n)[j]? = some (.int .i64 (Nt.cells2 f j))
  | 0, j, h => absurd h (by omega)
  | n + 1, j, h => by
    rw [frVs_succ]
    by_cases e : j < n * 2
    · rw [List.getElem?_append_left (by rw [frVs_len]; exact e)]
      exact frVs_at f n j e
    · rw [List.getElem?_append_right (by rw [frVs_len]; omega), frVs_len]
      have : j = n * 2 ∨ j = n * 2 + 1 := by omega
      rcases this with rfl | rfl
      · rw [Nt.cells2_0]; simp
      · rw [Nt.cells2_1]; simp
theorem fr_own {B N : Nat} {v : Value} {f : Nat → Int × Int} {W : World} (h : W.ownsRow B 35 2 v N (frVs f N)) : ∃ a c, v = .slice a N c ∧ LsOwn 35 2 B N a c (Nt.cells2 f) W := by
  rcases h.2 with h2 | ⟨g, cap, cur, e1, e2, e3, e4, e5, e6, e7⟩
  · exact ⟨none, 0, by rw [h2.1, h2.2], Or.inl ⟨rfl, h2.2, rfl⟩⟩
  · refine ⟨_, _, e1, Or.inr ⟨g, rfl, e2, cap * 2, fun i => cur[i]?.getD undef, by omega, ⟨cur, e3, e6, fun i hi => ?_⟩, fun j hj => ?_⟩⟩
    · show cur[i]? = some (cur[i]?.getD undef)
      rw [Array.getElem?_eq_getElem (by omega)]
      rfl
    · have h1 : (cur.toList.take (N * 2))[j]? = (frVs f N)[j]? := by rw [e7]
      rw [List.getElem?_take, if_pos (by omega), Array.getElem?_toList, frVs_at f N j hj] at h1
      show cur[j]?.getD undef = _
      rw [h1]; rfl
theorem ninfo_fr : (Tryz.prog.info? 35).map (fun i => (i.zero, i.size, i.bytes)) = some (some (.agg #[.int .i64 0, .int .i64 0]), 2, 16) := by kernel_rfl
/-- What stands in a walk of the model's: the box of the net, the place of the answer, the reckoning's fault, the answer's list. -/
structure SpS (n : Nt.Net) (la : Option Addr) (lk : Nat) (fa : Option Addr) (fk : Nat) (wa : Option Addr) (wk gc go i : Nat) (f : Nat → Int × Int) (z : Int) (v : Value) (w W : World) : Prop where
  row : W.rowIs w.heap.size 27 4 (rowN (ntL n la lk fa fk wa wk))
  res : W.rowIs (w.heap.size + 1) 31 3 (rowN (noL none 0 0 0 0))
  old : Below w.heap.size w W
  rc : W.rowIs gc 59 1 (rowN [.int .i64 z])
  ro : W.rowIs go 31 3 (rowN [v, .int .i64 0, .int .i64 0])
  own : W.ownsRow (go + 1) 35 2 v i (frVs f i)
  num : w.heap.size + 1 < gc ∧ gc < go
section
variable {n : Nt.Net} {la : Option Addr} {lk : Nat} {fa : Option Addr} {fk : Nat} {wa : Option Addr} {wk gc go i : Nat} {f : Nat → Int × Int} {z : Int} {v : Value} {w W W' : World}
theorem SpS.below (h : SpS n la lk fa fk wa wk gc go i f z v w W) (hb : Below W.heap.size W W') : SpS n la lk fa fk wa wk gc go i f z v w W' :=
  ⟨nrow_below h.row hb, nrow_below h.res hb, h.old.trans (hb.mono h.old.size), nrow_below h.rc hb, nrow_below h.ro hb, nown_block h.own (fun k hk => hb.block k (h.own.lt k hk).2), h.num⟩
theorem SpS.take {z' : Int} (h : SpS n la lk fa fk wa wk gc go i f z v w W) (hr : W'.rowIs gc 59 1 (rowN [.int .i64 z'])) (ho : Only gc W W') : SpS n la lk fa fk wa wk gc go i f z' v w W' :=
  have hn := h.num
  ⟨h.row.of_block (ho.block _ h.row.lt (by omega)), h.res.of_block (ho.block _ h.res.lt (by omega)), h.old.trans (ho.below (by omega) h.old.size), hr, h.ro.of_block (ho.block _ h.ro.lt (by omega)), nown_block h.own (fun k hk => ho.block k (h.own.lt k hk).2 (by have := (h.own.lt k hk).1; omega)), h.num⟩
theorem SpS.grow {v' : Value} (h : SpS n la lk fa fk wa wk gc go i f z v w W) (hown : W'.ownsRow (go + 1) 35 2 v' (i + 1) (frVs f (i + 1))) (hg : W.grownBy W' v.ownBlock) : SpS n la lk fa fk wa wk gc go (i + 1) f z v' w (W'.setCell ⟨go, 0, none⟩ v') := by
  have hn := h.num
  have ne : ∀ k, v.ownBlock = some k → go + 1 ≤ k := fun k e => (h.own.lt k e).1
  have blk : ∀ k, k < W.heap.size → k ≤ go → W'.heap[k]? = W.heap[k]? := fun k hk hk2 => hg.block k hk (fun e => by have := ne k e.symm; omega)
  have set : ∀ k, k ≠ go → (W'.setCell ⟨go, 0, none⟩ v').heap[k]? = W'.heap[k]? := fun k hk => Below.heap_setCell _ ⟨go, 0, none⟩ _ _ hk
  refine ⟨h.row.of_block ((set _ (by omega)).trans (blk _ h.row.lt (by omega))), h.res.of_block ((set _ (by omega)).trans (blk _ h.res.lt (by omega))), ?_, h.rc.of_block ((set _ (by omega)).trans (blk _ h.rc.lt (by omega))), ?_, nown_block hown (fun k hk => set k (by have := (hown.lt k hk).1; omega)), h.num⟩
  · exact (h.old.grown hg h.old.size (fun k e => by have := ne k e; omega)).setCell (p := ⟨go, 0, none⟩) (by show w.heap.size ≤ go; omega) _
  · exact rowN_put (h.ro.of_block (blk _ h.ro.lt (Nat.le_refl _))) 0 v' (by simp)
theorem SpS.congr {f' : Nat → Int × Int} {z' : Int} (h : SpS n la lk fa fk wa wk gc go i f z v w W) (e : z = z') (ef : ∀ j, j < i → f j = f' j) : SpS n la lk fa fk wa wk gc go i f' z' v w W := by
  subst e
  refine ⟨h.row, h.res, h.old, h.rc, h.ro, ?_, h.num⟩
  have e2 : frVs f i = frVs f' i := by
    unfold frVs
    rw [List.flatMap_eq_foldl, List.flatMap_eq_foldl]
    have : ∀ (l : List Nat), (∀ j, j ∈ l → f j = f' j) → ∀ a : List Value, l.foldl (fun acc j => acc ++ [Value.int .i64 (f j).1, .int .i64 (f j).2]) a = l.foldl (fun acc j => acc ++ [Value.int .i64 (f' j).1, .int .i64 (f' j).2]) a := by
      intro l
      induction l with
      | nil => intros; rfl
      | cons x t ih => intro hl a; simp only [List.foldl_cons]; rw [hl x (by simp), ih (fun j hj => hl j (by simp [hj]))]
    exact this _ (fun j hj => ef j (List.mem_range.1 hj)) _
  rw [← e2]; exact h.own
end
end Go.Proofs.YtkaokfmaecdkiaaGreatDoor
