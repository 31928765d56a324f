/-
  Lists of ops that grow.
-/
import Derived.Test.YtgkdnpnnmmpnmaaCyOpM
import Derived.Test.YtgkdnpnnmmpnmaaCyMem
import Derived.Test.YtgkdnpnnmmpnmaaCyEx1
import Derived.Laws.AppendOwn
import Derived.Laws.AppendOwnNone
import Derived.Laws.OwnMore
namespace Go.Proofs.Ytgkdnpnnmmpnmaa
open Go.RowKit Go.Deep

/-- The cells of ops. -/
def opV (l : List Pc.Op) : List Value := l.flatMap fun x => [.int .i64 x.1, .int .i64 x.2.1, .int .i64 x.2.2]
theorem opV_app (l m : List Pc.Op) : opV (l ++ m) = opV l ++ opV m := by simp [opV]
theorem opV_len (l : List Pc.Op) : (opV l).length = l.length * 3 := by
  induction l with
  | nil => rfl
  | cons x l ih => simp only [opV, List.flatMap_cons, List.length_append, List.length_cons, List.length_nil] at ih ⊢; omega
theorem opV_get (l : List Pc.Op) (j : Nat) (h : j < l.length * 3) : (opV l)[j]? = some (.int .i64 (Pc.fl l j)) := by
  induction l generalizing j with
  | nil => simp at h
  | cons x l ih =>
    match j with
    | 0 => rfl
    | 1 => rfl
    | 2 => rfl
    | j + 3 =>
      rw [Pc.fl_tail, ← ih j (by simp at h; omega)]
      rfl
theorem opV_one (l : List Pc.Op) : ∀ u ∈ opV l, u.oneCell' = true := by
  intro u hu
  simp only [opV, List.mem_flatMap] at hu
  obtain ⟨x, _, hx⟩ := hu
  simp at hx
  rcases hx with rfl | rfl | rfl <;> rfl
theorem ops_new (w : World) (m : List Pc.Op) (T : TypeId) : ∀ j u, (opV m)[j]? = some u → (w.alloc (.cells ⟨opV m⟩ T)).cell? ((⟨w.heap.size, 0, none⟩ : Addr).add j) = some u := by
  intro j u h
  obtain ⟨hj, hu⟩ := List.getElem?_eq_some_iff.1 h
  have := (rowN_alloc w (opV m) T).cell (i := j) hj
  rw [Addr.add_lit, Nat.zero_add, this]
  unfold rowN
  rw [List.getD_eq_getElem?_getD, h]; rfl
/-- A list of ops that is owned. -/
theorem own_ops {T : TypeId} {B : Nat} {v : Value} {l : List Pc.Op} {w : World} (h : w.ownsRow B T 3 v l.length (opV l)) :
    ∃ a cap, v = .slice a l.length cap ∧ CyO T B (l.length * 3) a cap (Pc.fl l) w := by
  rcases h.2 with ⟨rfl, h2⟩ | ⟨g, cap, cur, rfl, e2, e3, e4, e5, e6, e7⟩
  · exact ⟨none, 0, by rw [h2], Or.inl ⟨rfl, by rw [h2], rfl⟩⟩
  · refine ⟨_, cap, rfl, Or.inr ⟨g, rfl, e2, cap * 3, fun i => cur[i]?.getD undef, by omega, ⟨cur, e3, e6, fun i hi => ?_⟩, fun j hj => ?_⟩⟩
    · show cur[i]? = some (cur[i]?.getD undef)
      rw [Array.getElem?_eq_getElem (by omega)]
      rfl
    · have h1 : (cur.toList.take (l.length * 3))[j]? = (opV l)[j]? := by rw [e7]
      rw [List.getElem?_take, if_pos hj, Array.getElem?_toList, opV_get l j hj] at h1
      show cur[j]?.getD undef = _
      rw [h1]; rfl
section
theorem opinfo : (Try.prog.info? 61).map (fun i => (i.zero, i.size, i.bytes)) = some (some (.agg #[.int .i64 0, .int .i64 0, .int .i64 0]), 3, 24) := by kernel_rfl
theorem run_append_ops (w : World) (ty : TypeId) (B : Nat) (v : Value) (l m : List Pc.Op) (hown : w.ownsRow B 61 3 v l.length (opV l)) (ad : Addr) (k : Nat) (hm : ∀ j u, (opV m)[j]? = some u → w.cell? (ad.add j) = some u)
    (h63 : l.length + m.length ≤ 1000000) (hB : B ≤ w.heap.size) :
    ∃ v' w', (Builtin.append_ #[41, 41] ty #[v, .slice (some ad) m.length k]).run Try.prog w = .ok v' w' ∧ w'.ownsRow B 61 3 v' (l ++ m).length (opV (l ++ m)) ∧ w.grownBy w' v.ownBlock := by
  obtain ⟨i0, hi, hz0, hz1, hz2⟩ := info_parts opinfo
  obtain ⟨v', w', hr, h1, h2, _⟩ := run_append_own (P := Try.prog) w B 41 ty 61 i0 _ 3 24 Try.underlying41 hi hz0 hz1 hz2 rfl (by decide) v l.length (opV l) hown ad m.length k (opV m) (opV_len m) hm (opV_one m) (by unfold maxLen; omega) (by omega) hB
  exact ⟨v', w', hr, by rw [List.length_append, opV_app]; exact h1, h2⟩
theorem wp_append_ops {o : Oper} {a : Act} {w : World} {K : Act → World → Prop} {Q : Exit → Act → World → Prop} (s x : Operand)
    (ho : o.op = .call { callee := .builtin .append, args := #[s, x], argTypes := #[41, 41] })
    (B : Nat) (v : Value) (l m : List Pc.Op) (hv : a.eval s = v) (hown : w.ownsRow B 61 3 v l.length (opV l)) (ad : Addr) (n k : Nat) (hx : a.eval x = .slice (some ad) n k) (hn : n = m.length) (hm : ∀ j u, (opV m)[j]? = some u → w.cell? (ad.add j) = some u)
    (h63 : l.length + m.length ≤ 1000000) (hB : B ≤ w.heap.size)
    (hK : ∀ v' w', w'.ownsRow B 61 3 v' (l ++ m).length (opV (l ++ m)) → w.grownBy w' v.ownBlock → K (a.put o.dst v') w') : o.wp Try.prog a w K Q := by
  subst hn
  obtain ⟨v', w', hr, h2, h3⟩ := run_append_ops w o.type B v l m hown ad k hm h63 hB
  unfold Oper.wp execOp
  simp only [ho, resolve, invoke, builtin, Sem.run_bind, Sem.run_pure, Result.andThen_ok, List.map_toArray, List.map_cons, List.map_nil, hv, hx, hr]
  exact hK v' w' h2 h3
theorem wpList_append_ops {ops : Array Oper} {rest : List Oper} {o : Oper} {a : Act} {w : World} {Q : Exit → Act → World → Prop} (hgd : o.guard = none) (s x : Operand)
    (ho : o.op = .call { callee := .builtin .append, args := #[s, x], argTypes := #[41, 41] })
    (B : Nat) (v : Value) (l m : List Pc.Op) (hv : a.eval s = v) (hown : w.ownsRow B 61 3 v l.length (opV l)) (ad : Addr) (n k : Nat) (hx : a.eval x = .slice (some ad) n k) (hn : n = m.length) (hm : ∀ j u, (opV m)[j]? = some u → w.cell? (ad.add j) = some u)
    (h63 : l.length + m.length ≤ 1000000) (hB : B ≤ w.heap.size)
    (hK : ∀ v' w', w'.ownsRow B 61 3 v' (l ++ m).length (opV (l ++ m)) → w.grownBy w' v.ownBlock → wpList Try.prog ops Q rest (a.put o.dst v') w') : wpList Try.prog ops Q (o :: rest) a w :=
  wpList_plain hgd fun _ hK2 => wp_append_ops s x ho B v l m hv hown ad n k hx hn hm h63 hB fun v' w' h2 h3 => hK2 _ _ (hK v' w' h2 h3)
theorem step_append_ops {ops : Array Oper} {o : Oper} {a : Act} {w : World} {K : Act → World → Prop} {Q : Exit → Act → World → Prop} {E : Prop} (hg : o.guard = none) (s x : Operand)
    (ho : o.op = .call { callee := .builtin .append, args := #[s, x], argTypes := #[41, 41] })
    (B : Nat) (v : Value) (l m : List Pc.Op) (hv : a.eval s = v) (hown : w.ownsRow B 61 3 v l.length (opV l)) (ad : Addr) (n k : Nat) (hx : a.eval x = .slice (some ad) n k) (hn : n = m.length) (hm : ∀ j u, (opV m)[j]? = some u → w.cell? (ad.add j) = some u)
    (h63 : l.length + m.length ≤ 1000000) (hB : B ≤ w.heap.size)
    (hK : ∀ v' w', w'.ownsRow B 61 3 v' (l ++ m).length (opV (l ++ m)) → w.grownBy w' v.ownBlock → K (a.put o.dst v') w') :
    if Region.wanted o (yielded ops a.tmps) = true then Oper.wp Try.prog o a w K Q else E := by
  have hw : Region.wanted o (yielded ops a.tmps) = true := by simp [Region.wanted, hg]
  rw [if_pos hw]
  exact wp_append_ops s x ho B v l m hv hown ad n k hx hn hm h63 hB hK
end
/-- Old memory stays behind such an append. -/
theorem cy_grown {B : Nat} {w W W' : World} {row : Option Nat} (h : Below B w W) (hs : B ≤ W.heap.size) (hg : W.grownBy W' row) (hr : ∀ k, row = some k → B ≤ k) : Below B w W' :=
  ⟨hg.os.trans h.os, hg.tape.trans h.tape, hg.output.trans h.output, Nat.le_trans h.size hg.size, fun k hk => (hg.block k (by omega) (fun e => by have := hr k e.symm; omega)).trans (h.block k hk)⟩
end Go.Proofs.Ytgkdnpnnmmpnmaa
