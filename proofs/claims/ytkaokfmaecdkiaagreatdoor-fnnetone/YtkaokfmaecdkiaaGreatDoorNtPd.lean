/-
  What a net that is being drawn is: its lists, the source, the old memory.
-/
import Derived.Test.YtkaokfmaecdkiaaGreatDoorNtMem
import Derived.Test.YtkaokfmaecdkiaaGreatDoorSource
import Derived.Test.YtkaokfmaecdkiaaGreatDoorRegL
import Derived.Maps.AppendAt
namespace Go.Proofs.YtkaokfmaecdkiaaGreatDoor
open Go Go.RowKit Go.Deep

theorem lpown_block {B n size : Nat} {e : TypeId} {v : Value} {xs : List Value} {W W' : World} (h : W.ownsRow B e size v n xs) (hb : ∀ k, v.ownBlock = some k → k < W.heap.size → W'.heap[k]? = W.heap[k]?) : W'.ownsRow B e size v n xs := by
  obtain ⟨h1, h2⟩ := h
  refine ⟨h1, ?_⟩
  rcases h2 with h2 | ⟨g, cap, cur, e1, e2, e3, e4⟩
  · exact Or.inl h2
  · refine Or.inr ⟨g, cap, cur, e1, e2, ?_, e4⟩
    have hlt : g < W.heap.size := by
      rcases Nat.lt_or_ge g W.heap.size with h | h
      · exact h
      · rw [Array.getElem?_eq_none h] at e3; cases e3
    rw [hb g (by rw [e1]; rfl) hlt]; exact e3
/-- Numbers, as values. -/
abbrev jvs (xs : List Int) : List Value := xs.map (Value.int .i64)
theorem lpown_below {B n size : Nat} {e : TypeId} {v : Value} {xs : List Value} {W W' : World} (h : W.ownsRow B e size v n xs) (hb : Below W.heap.size W W') : W'.ownsRow B e size v n xs := lpown_block h (fun k _ hl => hb.block k hl)
theorem lpown_low {B B' n size : Nat} {e : TypeId} {v : Value} {xs : List Value} {W : World} (h : W.ownsRow B e size v n xs) (hb : B' ≤ B) : W.ownsRow B' e size v n xs := ⟨h.1, h.2.imp id (fun ⟨g, cap, cur, e1, e2, r⟩ => ⟨g, cap, cur, e1, Nat.le_trans hb e2, r⟩)⟩
theorem lpown_shape {B n size : Nat} {e : TypeId} {v : Value} {xs : List Value} {W : World} (h : W.ownsRow B e size v n xs) : ∃ a c, v = .slice a n c := by
  rcases h.2 with h | ⟨g, cp, _, e, _⟩
  · exact ⟨none, 0, by rw [h.1, h.2]⟩
  · exact ⟨_, _, e⟩
theorem lpown_rne {B : Nat} {e : TypeId} {s : Nat} {v : Value} {n : Nat} {xs : List Value} {w : World} {h : Nat} {t : TypeId} {k : Nat} {G : Nat → Value} (h1 : w.ownsRow B e s v n xs) (h2 : w.rowIs h t k G) (hne : e ≠ t) : some h ≠ v.ownBlock := by
  intro hh
  obtain ⟨_, h3⟩ := h1
  rcases h3 with ⟨rfl, _⟩ | ⟨g, cap, cur, rfl, e2, e3, e4⟩
  · cases hh
  · have hgh : h = g := Option.some.inj hh
    subst hgh
    obtain ⟨c', e5, _⟩ := h2
    rw [e3] at e5
    cases e5
    exact hne rfl
theorem lpown_one {B B' : Nat} {e e' : TypeId} {s s' : Nat} {v v' : Value} {n n' : Nat} {xs xs' : List Value} {w : World} (h1 : w.ownsRow B e s v n xs) (h2 : w.ownsRow B' e' s' v' n' xs') (hne : e ≠ e') : ∀ g, v.ownBlock = some g → some g ≠ v'.ownBlock := by
  intro g hg hh
  obtain ⟨_, h3⟩ := h1
  obtain ⟨_, h4⟩ := h2
  rcases h3 with ⟨rfl, _⟩ | ⟨g1, cap, cur, rfl, e2, e3, _⟩
  · cases hg
  rcases h4 with ⟨rfl, _⟩ | ⟨g2, cap2, cur2, rfl, f2, f3, _⟩
  · cases hh
  have a1 : g1 = g := Option.some.inj hg
  have a2 : g = g2 := Option.some.inj hh
  subst a1; subst a2
  rw [e3] at f3
  cases f3
  exact hne rfl
theorem md_size {sb : Nat} {w : World} (h : Src sb w) : ∃ z : Int, w.cell? ⟨sb, 3, none⟩ = some (.int .i64 z) ∧ 0 ≤ z ∧ z ≤ 12 := by
  obtain ⟨a, len, cap, at_, mix, size, ⟨c0, c1, c2, c3, _⟩, h1, h2, h3, h4, h5, h6⟩ := h
  exact ⟨size, c3, h4, h5⟩
theorem Src.keep {sb : Nat} {w w' : World} (h : Src sb w) (hb : ∀ k, k ≤ sb → w'.heap[k]? = w.heap[k]?) : Src sb w' := by
  obtain ⟨a, len, cap, at_, mix, size, ⟨c0, c1, c2, c3, f0, f1, f2, f3⟩, h1, h2, h3, h4, h5, h6⟩ := h
  have ce : ∀ o, w'.cell? ⟨sb, o, none⟩ = w.cell? ⟨sb, o, none⟩ := fun o => World.cell?_of_block (hb sb (Nat.le_refl _))
  have fe : ∀ o, w'.frozen? ⟨sb, o, none⟩ = w.frozen? ⟨sb, o, none⟩ := fun o => World.frozen?_of_block (hb sb (Nat.le_refl _))
  refine ⟨a, len, cap, at_, mix, size, ⟨(ce 0).trans c0, (ce 1).trans c1, (ce 2).trans c2, (ce 3).trans c3, (fe 0).trans f0, (fe 1).trans f1, (fe 2).trans f2, (fe 3).trans f3⟩, h1, h2, h3, h4, h5, fun i hi => ?_⟩
  obtain ⟨cb, co, z, e, hne, hc, z0, z1⟩ := h6 i hi
  exact ⟨cb, co, z, e, hne, (World.cell?_of_block (a := ⟨cb, co + i, none⟩) (hb cb (by omega))).trans hc, z0, z1⟩
set_option maxHeartbeats 1000000 in
theorem md_wrap {x : Int} (h1 : -9223372036854775808 ≤ x) (h2 : x ≤ 9223372036854775807) : IntKind.i64.wrap x = x := by simp [IntKind.wrap, IntKind.bits, IntKind.signed]; omega
theorem md_chg {W W' : World} {sb g : Nat} {T : TypeId} {m : Nat} {F : Nat → Value} (h : W.rowIs g T m F) (hg : g ≠ sb) (hc : Chg sb W W') : W'.rowIs g T m F := h.of_block (hc.2.2.2.2 g h.lt hg)
theorem mdap {P : Program} {ops : Array Oper} {o : Oper} {a : Act} {w : World} {K : Act → World → Prop} {Q : Exit → Act → World → Prop} {E : Prop}
    (hg : o.guard = none) (s x : Operand) (t : TypeId) (hop : o.op = Op.call { callee := Callee.builtin Builtin.append, args := #[s, x], argTypes := #[t, t] }) (B : Nat)
    (e : TypeId) (i : TypeInfo) (z : Value) (size bytes : Nat) (h1 : P.underlying t = some (.slice e)) (h2 : P.info? e = some i) (h3 : i.zero = some z) (h4 : i.size = size) (h5 : i.bytes = bytes) (h6 : z.cells.size = size) (h7 : 0 < size)
    (v : Value) (n : Nat) (olds : List Value) (hs : a.eval s = v) (hown : w.ownsRow B e size v n olds)
    (ad : Addr) (m c : Nat) (news : List Value) (hx : a.eval x = .slice (some ad) m c) (hn : news.length = m * size) (hc : ∀ j u, news[j]? = some u → w.cell? (ad.add j) = some u) (h1c : ∀ u ∈ news, u.oneCell' = true)
    (b1 : n + m ≤ maxLen) (b2 : (n + m) * bytes ≤ 140737488355328) (hB : B ≤ w.heap.size)
    (hK : ∀ v' w', w'.ownsRow B e size v' (n + m) (olds ++ news) → w.grownBy w' v.ownBlock → K (a.put o.dst v') w') :
    if Region.wanted o (yielded ops a.tmps) = true then Oper.wp P o a w K Q else E := by
  have hw : Region.wanted o (yielded ops a.tmps) = true := by simp [Region.wanted, hg]
  rw [if_pos hw]
  obtain ⟨v', w', hrun, r1, r2, _⟩ := run_append_own (P := P) w B t o.type e i z size bytes h1 h2 h3 h4 h5 h6 h7 v n olds hown ad m c news hn hc h1c b1 b2 hB
  unfold Oper.wp
  simp [execOp, hop, resolve, invoke, builtin, hs, hx, hrun, Result.andThen]
  exact hK v' w' r1 r2
theorem md_isat {B s n : Nat} {T : TypeId} {v : Value} {zs : List Int} {W : World} (h : W.ownsRow B T s v n (jvs zs)) : ∃ a c, v = .slice a n c ∧ IsAt a (n * s) (fun j => zs.getD j 0) W ∧ ∀ b, a = some ⟨b, 0, none⟩ → B ≤ b := by
  have hl : zs.length = n * s := by simpa [jvs] using h.1
  rcases h.2 with ⟨e1, e2⟩ | ⟨g, cap, cur, e1, e2, _⟩
  · exact ⟨none, 0, by rw [e1, e2], Or.inl (by rw [e2]; simp), fun b e => by cases e⟩
  · refine ⟨_, cap, e1, Or.inr ⟨g, rfl, fun j hj => ?_⟩, fun b e => by cases e; exact e2⟩
    have k := World.ownsRow.cells h (g := g) (by rw [e1]; rfl) j (.int .i64 (zs.getD j 0)) (by simp [jvs, hl, hj])
    rw [Addr.add_lit, Nat.zero_add] at k
    exact k
theorem md_grown {w W W' : World} {sb : Nat} {v : Value} (hs : Drew sb w W) (hg : W.grownBy W' v.ownBlock) (hv : ∀ k, v.ownBlock = some k → w.heap.size ≤ k) (hl : sb < w.heap.size) : Drew sb w W' := by
  have hk : ∀ k, k < w.heap.size → W'.heap[k]? = W.heap[k]? := fun k hk => hg.block k (by have := hs.2.size; omega) (fun e => by have := hv k e.symm; omega)
  exact ⟨hs.1.keep (fun k hk2 => hk k (by omega)), hg.os.trans hs.2.1, hg.tape.trans hs.2.2.1, hg.output.trans hs.2.2.2.1, Nat.le_trans hs.2.size hg.size, fun k h1 h2 => (hk k h1).trans (hs.2.2.2.2.2 k h1 h2)⟩
theorem md_row {W W' : World} {T T' : TypeId} {s B g m n : Nat} {v : Value} {F : Nat → Value} {xs : List Value} (hr : W.rowIs g T' m F) (ho : W.ownsRow B T s v n xs) (hT : T ≠ T') (hg : W.grownBy W' v.ownBlock) : W'.rowIs g T' m F :=
  hr.of_block (hg.block _ hr.lt (lpown_rne ho hr hT))
theorem Drew.tr {sb : Nat} {a b c : World} (h : Drew sb a b) (k : Drew sb b c) : Drew sb a c := ⟨k.1, h.2.trans k.2⟩
theorem linfo : (Tryz.prog.info? 68).map (fun i => (i.zero, i.size, i.bytes)) = some (some (.agg #[.int .i64 0, .int .i64 0, .int .i64 0]), 3, 24) := by kernel_rfl
theorem finfo : (Tryz.prog.info? 39).map (fun i => (i.zero, i.size, i.bytes)) = some (some (.agg #[.int .i64 0, .int .i64 0]), 2, 16) := by kernel_rfl
theorem winfo : (Tryz.prog.info? 2).map (fun i => (i.zero, i.size, i.bytes)) = some (some (.int .i64 0), 1, 8) := by kernel_rfl
abbrev ndZ : List Value := [.int .i64 0, .slice none 0 0, .slice none 0 0, .slice none 0 0]
abbrev ndR (nd : Int) (lv fv wv : Value) : List Value := [.int .i64 nd, lv, fv, wv]
/-- What lasts while a net is drawn. -/
structure ND (w : World) (sb R : Nat) (lv fv wv : Value) (ln fn wn : Nat) (ls fs ws : List Int) (W : World) : Prop where
  src : Drew sb w W
  sbl : sb < w.heap.size
  rl : w.heap.size < R
  res : W.rowIs w.heap.size 27 4 (rowN ndZ)
  lo : W.ownsRow w.heap.size 68 3 lv ln (jvs ls)
  fo : W.ownsRow w.heap.size 39 2 fv fn (jvs fs)
  wo : W.ownsRow w.heap.size 2 1 wv wn (jvs ws)
section
variable {w : World} {sb R : Nat} {lv fv wv : Value} {ln fn wn : Nat} {ls fs ws : List Int} {W W' : World}
theorem ND.keep (h : ND w sb R lv fv wv ln fn wn ls fs ws W) (hs : Drew sb w W') (hb : ∀ k, w.heap.size ≤ k → k < W.heap.size → W'.heap[k]? = W.heap[k]?) : ND w sb R lv fv wv ln fn wn ls fs ws W' :=
  ⟨hs, h.sbl, h.rl, h.res.of_block (hb _ (Nat.le_refl _) h.res.lt), lpown_block h.lo (fun k e hl => hb k (World.ownsRow.lt h.lo k e).1 hl), lpown_block h.fo (fun k e hl => hb k (World.ownsRow.lt h.fo k e).1 hl), lpown_block h.wo (fun k e hl => hb k (World.ownsRow.lt h.wo k e).1 hl)⟩
theorem ND.draw (h : ND w sb R lv fv wv ln fn wn ls fs ws W) (hd : Drew sb W W') : ND w sb R lv fv wv ln fn wn ls fs ws W' :=
  h.keep ⟨hd.1, h.src.2.trans hd.2⟩ (fun k h1 h2 => hd.2.2.2.2.2 k h2 (by have := h.sbl; omega))
theorem ND.below (h : ND w sb R lv fv wv ln fn wn ls fs ws W) (hb : Below W.heap.size W W') : ND w sb R lv fv wv ln fn wn ls fs ws W' :=
  h.keep ⟨h.src.1.below hb, h.src.2.trans (Chg.of_below hb)⟩ (fun k _ h2 => hb.block k h2)
/-- A store into the net's own block. -/
theorem ND.set (h : ND w sb R lv fv wv ln fn wn ls fs ws W) {i m : Nat} {F : Nat → Value} (hr : W.rowIs R 27 m F) (v : Value) : ND w sb R lv fv wv ln fn wn ls fs ws (W.setCell ⟨R, i, none⟩ v) := by
  have hk : ∀ k, k ≠ R → (W.setCell ⟨R, i, none⟩ v).heap[k]? = W.heap[k]? := fun k hk => Below.heap_setCell _ _ _ _ hk
  have hsz : (W.setCell ⟨R, i, none⟩ v).heap.size = W.heap.size := by simp
  have hrl := h.rl
  have ne : ∀ {u : Value} {k : Nat}, some R ≠ u.ownBlock → u.ownBlock = some k → k ≠ R := fun hu e e2 => hu (by rw [e, e2])
  exact ⟨⟨h.src.1.keep (fun k hk2 => hk k (by have := h.sbl; omega)), h.src.2.1, h.src.2.2.1, h.src.2.2.2.1, by rw [hsz]; exact h.src.2.2.2.2.1, fun k h1 h2 => (hk k (by omega)).trans (h.src.2.2.2.2.2 k h1 h2)⟩, h.sbl, h.rl, h.res.of_block (hk _ (by omega)), lpown_block h.lo (fun k e _ => hk k (ne (lpown_rne h.lo hr (by decide)) e)), lpown_block h.fo (fun k e _ => hk k (ne (lpown_rne h.fo hr (by decide)) e)), lpown_block h.wo (fun k e _ => hk k (ne (lpown_rne h.wo hr (by decide)) e))⟩
theorem ND.app_l {lv' : Value} {zs : List Int} (h : ND w sb R lv fv wv ln fn wn ls fs ws W) (hg : W.grownBy W' lv.ownBlock) (ho : W'.ownsRow w.heap.size 68 3 lv' (ln + 1) (jvs ls ++ jvs zs)) : ND w sb R lv' fv wv (ln + 1) fn wn (ls ++ zs) fs ws W' :=
  ⟨md_grown h.src hg (fun k e => (World.ownsRow.lt h.lo k e).1) h.sbl, h.sbl, h.rl, h.res.of_block (hg.block _ h.res.lt (lpown_rne h.lo h.res (by decide))), by rw [jvs, List.map_append]; exact ho, lpown_block h.fo (fun k e hl => hg.block k hl (lpown_one h.fo h.lo (by decide) k e)), lpown_block h.wo (fun k e hl => hg.block k hl (lpown_one h.wo h.lo (by decide) k e))⟩
theorem ND.app_f {fv' : Value} {zs : List Int} (h : ND w sb R lv fv wv ln fn wn ls fs ws W) (hg : W.grownBy W' fv.ownBlock) (ho : W'.ownsRow w.heap.size 39 2 fv' (fn + 1) (jvs fs ++ jvs zs)) : ND w sb R lv fv' wv ln (fn + 1) wn ls (fs ++ zs) ws W' :=
  ⟨md_grown h.src hg (fun k e => (World.ownsRow.lt h.fo k e).1) h.sbl, h.sbl, h.rl, h.res.of_block (hg.block _ h.res.lt (lpown_rne h.fo h.res (by decide))), lpown_block h.lo (fun k e hl => hg.block k hl (lpown_one h.lo h.fo (by decide) k e)), by rw [jvs, List.map_append]; exact ho, lpown_block h.wo (fun k e hl => hg.block k hl (lpown_one h.wo h.fo (by decide) k e))⟩
theorem ND.app_w {wv' : Value} {zs : List Int} (h : ND w sb R lv fv wv ln fn wn ls fs ws W) (hg : W.grownBy W' wv.ownBlock) (ho : W'.ownsRow w.heap.size 2 1 wv' (wn + 1) (jvs ws ++ jvs zs)) : ND w sb R lv fv wv' ln fn (wn + 1) ls fs (ws ++ zs) W' :=
  ⟨md_grown h.src hg (fun k e => (World.ownsRow.lt h.wo k e).1) h.sbl, h.sbl, h.rl, h.res.of_block (hg.block _ h.res.lt (lpown_rne h.wo h.res (by decide))), lpown_block h.lo (fun k e hl => hg.block k hl (lpown_one h.lo h.wo (by decide) k e)), lpown_block h.fo (fun k e hl => hg.block k hl (lpown_one h.fo h.wo (by decide) k e)), by rw [jvs, List.map_append]; exact ho⟩
end
theorem ncells1 (X : World) (T : TypeId) (a : Value) : ∀ j u, [a][j]? = some u → (X.alloc (.cells #[a] T)).cell? ((⟨X.heap.size, 0, none⟩ : Addr).add j) = some u := by
  intro j u hj
  match j, hj with
  | 0, hj => simp at hj; subst hj; simp [Addr.add]
theorem ncells2 (X : World) (T : TypeId) (a b : Value) : ∀ j u, [a, b][j]? = some u → (X.alloc (.cells #[a, b] T)).cell? ((⟨X.heap.size, 0, none⟩ : Addr).add j) = some u := by
  intro j u hj
  match j, hj with
  | 0, hj => simp at hj; subst hj; simp [Addr.add]
  | 1, hj => simp at hj; subst hj; simp [Addr.add]
theorem ncells3 (X : World) (T : TypeId) (a b c : Value) : ∀ j u, [a, b, c][j]? = some u → (X.alloc (.cells #[a, b, c] T)).cell? ((⟨X.heap.size, 0, none⟩ : Addr).add j) = some u := by
  intro j u hj
  match j, hj with
  | 0, hj => simp at hj; subst hj; simp [Addr.add]
  | 1, hj => simp at hj; subst hj; simp [Addr.add]
  | 2, hj => simp at hj; subst hj; simp [Addr.add]
/-- As a net. -/
def ndw (nd : Int) (ln fn wn : Nat) (ls fs ws : List Int) : Nt.Net := ⟨nd, ln, fun j => ls.getD j 0, fn, fun j => fs.getD j 0, wn, fun j => ws.getD j 0⟩
/-- A net in the drawing, lists of at most so many items. -/
def NX (w : World) (sb R : Nat) (W : World) : Prop := ∃ (nd : Int) (lv fv wv : Value) (ln fn wn : Nat) (ls fs ws : List Int), ND w sb R lv fv wv ln fn wn ls fs ws W ∧ W.rowIs R 27 4 (rowN (ndR nd lv fv wv)) ∧ ln ≤ 200 ∧ fn ≤ 200 ∧ wn ≤ 200
/-- A net in the drawing: so many nodes, links, fixed heads, wants. -/
def NY (w : World) (sb R : Nat) (nd : Int) (ln fn wn : Nat) (W : World) : Prop := ∃ (la : Option Addr) (lk : Nat) (fa : Option Addr) (fk : Nat) (wa : Option Addr) (wk : Nat) (ls fs ws : List Int), ND w sb R (.slice la ln lk) (.slice fa fn fk) (.slice wa wn wk) ln fn wn ls fs ws W ∧ W.rowIs R 27 4 (rowN (ndR nd (.slice la ln lk) (.slice fa fn fk) (.slice wa wn wk)))
theorem NY.draw {w : World} {sb R : Nat} {nd : Int} {ln fn wn : Nat} {W W' : World} (h : NY w sb R nd ln fn wn W) (hd : Drew sb W W') : NY w sb R nd ln fn wn W' := by
  obtain ⟨la, lk, fa, fk, wa, wk, ls, fs, ws, h1, h2⟩ := h
  exact ⟨la, lk, fa, fk, wa, wk, ls, fs, ws, h1.draw hd, md_chg h2 (by have := h1.rl; have := h1.sbl; omega) hd.2⟩
theorem NY.src {w : World} {sb R : Nat} {nd : Int} {ln fn wn : Nat} {W : World} (h : NY w sb R nd ln fn wn W) : Src sb W := by
  obtain ⟨la, lk, fa, fk, wa, wk, ls, fs, ws, h1, h2⟩ := h
  exact h1.src.1
/-- Another number of nodes is stored. -/
theorem NY.nodes {w : World} {sb R : Nat} {nd : Int} {ln fn wn : Nat} {W : World} (h : NY w sb R nd ln fn wn W) (y : Int) : NY w sb R y ln fn wn (W.setCell ⟨R, 0, none⟩ (.int .i64 y)) := by
  obtain ⟨la, lk, fa, fk, wa, wk, ls, fs, ws, h1, h2⟩ := h
  exact ⟨la, lk, fa, fk, wa, wk, ls, fs, ws, h1.set h2 _, rowN_put h2 0 (.int .i64 y) (by simp)⟩
theorem NY.nd0 {w : World} {sb R : Nat} {nd : Int} {ln fn wn : Nat} {W : World} (h : NY w sb R nd ln fn wn W) : W.cell? ⟨R, 0, none⟩ = some (.int .i64 nd) ∧ W.frozen? ⟨R, 0, none⟩ = false ∧ R < W.heap.size := by
  obtain ⟨la, lk, fa, fk, wa, wk, ls, fs, ws, h1, h2⟩ := h
  exact ⟨h2.cell (i := 0) (by omega), h2.frozen 0, h2.lt⟩
/-- What is told of a drawn net. -/
def NdEnd (w : World) (sb : Nat) (e : Ending) (V : World) : Prop := (∃ (n : Nt.Net) (la : Option Addr) (lk : Nat) (fa : Option Addr) (fk : Nat) (wa : Option Addr) (wk : Nat), e = .returned (ntV n la lk fa fk wa wk) ∧ NtAt n la fa wa V ∧ (∀ b, (la = some ⟨b, 0, none⟩ ∨ fa = some ⟨b, 0, none⟩ ∨ wa = some ⟨b, 0, none⟩) → w.heap.size < b) ∧ n.ln ≤ 1000 ∧ n.fn ≤ 1000 ∧ n.wn ≤ 1000) ∧ Drew sb w V
theorem nd_at {nd : Int} {B ln fn wn lk fk wk : Nat} {la fa wa : Option Addr} {ls fs ws : List Int} {W : World} (lo : W.ownsRow B 68 3 (.slice la ln lk) ln (jvs ls)) (fo : W.ownsRow B 39 2 (.slice fa fn fk) fn (jvs fs)) (wo : W.ownsRow B 2 1 (.slice wa wn wk) wn (jvs ws)) : NtAt (ndw nd ln fn wn ls fs ws) la fa wa W := by
  refine ⟨?_, ?_, ?_⟩
  · obtain ⟨a, c, e, h1, _⟩ := md_isat lo
    cases e
    exact h1
  · obtain ⟨a, c, e, h1, _⟩ := md_isat fo
    cases e
    exact h1
  · obtain ⟨a, c, e, h1, _⟩ := md_isat wo
    cases e
    rw [Nat.mul_one] at h1
    exact h1
/-- A net at the end of its draw. -/
def NF (w : World) (sb R : Nat) (W : World) : Prop := ∃ (n : Nt.Net) (la : Option Addr) (lk : Nat) (fa : Option Addr) (fk : Nat) (wa : Option Addr) (wk : Nat), W.rowIs R 27 4 (rowN (ntL n la lk fa fk wa wk)) ∧ NtAt n la fa wa W ∧ (∀ b, (la = some ⟨b, 0, none⟩ ∨ fa = some ⟨b, 0, none⟩ ∨ wa = some ⟨b, 0, none⟩) → w.heap.size < b) ∧ Drew sb w W ∧ W.rowIs w.heap.size 27 4 (rowN ndZ) ∧ n.ln ≤ 1000 ∧ n.fn ≤ 1000 ∧ n.wn ≤ 1000
theorem own_addr {B n s : Nat} {T : TypeId} {a : Option Addr} {k : Nat} {xs : List Value} {W : World} (_h : W.ownsRow B T s (.slice a n k) n xs) {b : Nat} (e : a = some ⟨b, 0, none⟩) : (Value.slice a n k).ownBlock = some b := by rw [e]; rfl
theorem own_gt {B n s m : Nat} {T T2 : TypeId} {a : Option Addr} {k : Nat} {xs : List Value} {F : Nat → Value} {W : World} (h : W.ownsRow B T s (.slice a n k) n xs) (hr : W.rowIs B T2 m F) (hT : T ≠ T2) {b : Nat} (e : a = some ⟨b, 0, none⟩) : B < b := by
  have h1 := (World.ownsRow.lt h b (own_addr h e)).1
  have h2 := lpown_rne h hr hT
  rw [own_addr h e] at h2
  have : B ≠ b := fun e => h2 (by rw [e])
  omega
theorem ND.fin {w : World} {sb R : Nat} {nd : Int} {ln fn wn lk fk wk : Nat} {la fa wa : Option Addr} {ls fs ws : List Int} {W : World} (h : ND w sb R (.slice la ln lk) (.slice fa fn fk) (.slice wa wn wk) ln fn wn ls fs ws W) (hr : W.rowIs R 27 4 (rowN (ndR nd (.slice la ln lk) (.slice fa fn fk) (.slice wa wn wk)))) (h1 : ln ≤ 1000) (h2 : fn ≤ 1000) (h3 : wn ≤ 1000) : NF w sb R W := by
  refine ⟨ndw nd ln fn wn ls fs ws, la, lk, fa, fk, wa, wk, hr, nd_at h.lo h.fo h.wo, fun b e => ?_, h.src, h.res, h1, h2, h3⟩
  rcases e with e | e | e
  · exact own_gt h.lo h.res (by decide) e
  · exact own_gt h.fo h.res (by decide) e
  · exact own_gt h.wo h.res (by decide) e
theorem NY.fin {w : World} {sb R : Nat} {nd : Int} {ln fn wn : Nat} {W : World} (h : NY w sb R nd ln fn wn W) (h1 : ln ≤ 1000) (h2 : fn ≤ 1000) (h3 : wn ≤ 1000) : NF w sb R W := by
  obtain ⟨la, lk, fa, fk, wa, wk, ls, fs, ws, k1, k2⟩ := h
  exact k1.fin k2 h1 h2 h3
/-- The first want may be another one. -/
theorem nd_first {w : World} {sb R : Nat} {nd : Int} {ln fn wn lk fk wk gw : Nat} {la fa : Option Addr} {ls fs ws : List Int} {W : World} (h : ND w sb R (.slice la ln lk) (.slice fa fn fk) (.slice (some ⟨gw, 0, none⟩) wn wk) ln fn wn ls fs ws W) (hr : W.rowIs R 27 4 (rowN (ndR nd (.slice la ln lk) (.slice fa fn fk) (.slice (some ⟨gw, 0, none⟩) wn wk)))) (hw : 0 < wn) :
    ∃ (F : Nat → Value) (cw : Nat), W.rowIs gw 2 cw F ∧ W.cell? ⟨gw, 0, none⟩ = some (F 0) ∧ W.frozen? ⟨gw, 0, none⟩ = false ∧ gw < W.heap.size ∧ ∀ y : Int, ln ≤ 1000 → fn ≤ 1000 → wn ≤ 1000 → NF w sb R (W.setCell ⟨gw, 0, none⟩ (.int .i64 y)) := by
  have hob : (Value.slice (some ⟨gw, 0, none⟩) wn wk).ownBlock = some gw := rfl
  have hge := (World.ownsRow.lt h.wo gw hob).1
  have hrow : ∃ F, W.rowIs gw 2 wk F ∧ ∀ j, j < wn → F j = .int .i64 (ws.getD j 0) := by
    obtain ⟨a, c, e, h1, _⟩ := md_isat h.wo
    cases e
    rcases h.wo.2 with ⟨e1, _⟩ | ⟨g, cap, cur, e1, e2, e3, e4, e5, e6, e7⟩
    · cases e1
    · injection e1 with e1 _ e1b
      injection e1 with e1
      injection e1 with e1
      subst e1 e1b
      have hr2 : W.rowIs gw 2 wk (fun i => cur[i]?.getD undef) := ⟨cur, e3, by simpa using e6, fun i hi => by
        show cur[i]? = some (cur[i]?.getD undef)
        rw [Array.getElem?_eq_getElem (by omega)]
        rfl⟩
      refine ⟨_, hr2, fun j hj => ?_⟩
      obtain ⟨b, eb, h2⟩ := h1.pos (by omega)
      injection eb with eb
      injection eb with eb
      subst eb
      have q := h2 j (by omega)
      have q2 := hr2.cell (i := j) (by have : wn ≤ wk := by omega
                                       omega)
      rw [q2] at q
      exact Option.some.inj q
  obtain ⟨F, f1, f2⟩ := hrow
  have hwk : 0 < wk := by
    rcases h.wo.2 with ⟨e1, _⟩ | ⟨g, cap, cur, e1, e2, e3, e4, e5, e6, e7⟩
    · cases e1
    · injection e1 with _ _ e1b
      omega
  refine ⟨F, wk, f1, f1.cell hwk, f1.frozen 0, f1.lt, fun y h1 h2 h3 => ?_⟩
  have hk : ∀ k, k ≠ gw → (W.setCell ⟨gw, 0, none⟩ (.int .i64 y)).heap[k]? = W.heap[k]? := fun k hk => Below.heap_setCell _ _ _ _ hk
  have hsz : (W.setCell ⟨gw, 0, none⟩ (.int .i64 y)).heap.size = W.heap.size := by simp
  have hwne : w.heap.size ≠ gw := fun e => lpown_rne h.wo h.res (by decide) (by rw [hob, e])
  have hRne : R ≠ gw := fun e => lpown_rne h.wo hr (by decide) (by rw [hob, e])
  have hsbl := h.sbl
  refine ⟨ndw nd ln fn wn ls fs (ws.set 0 y), la, lk, fa, fk, some ⟨gw, 0, none⟩, wk, hr.of_block (hk _ hRne), ⟨?_, ?_, ?_⟩, fun b e => ?_, ?_, h.res.of_block (hk _ hwne), h1, h2, h3⟩
  · exact (nd_at (nd := nd) h.lo h.fo h.wo).l.same (fun b e _ => hk b (fun e2 => lpown_one h.lo h.wo (by decide) b (own_addr h.lo e) (by rw [e2]; rfl)))
  · exact (nd_at (nd := nd) h.lo h.fo h.wo).f.same (fun b e _ => hk b (fun e2 => lpown_one h.fo h.wo (by decide) b (own_addr h.fo e) (by rw [e2]; rfl)))
  · refine Or.inr ⟨gw, rfl, fun j hj => ?_⟩
    have hj' : j < wn := hj
    have hlen : ws.length = wn := by
      have := h.wo.1
      simpa [jvs] using this
    have hjk : j < wk := by
      rcases h.wo.2 with ⟨e1, _⟩ | ⟨g, cap, cur, e1, e2, e3, e4, e5, e6, e7⟩
      · cases e1
      · injection e1 with _ _ e1b
        omega
    rw [(f1.set 0 (.int .i64 y)).cell hjk]
    show some (if j = 0 then _ else F j) = some (.int .i64 ((ws.set 0 y).getD j 0))
    by_cases e : j = 0
    · subst e
      rw [if_pos rfl]
      simp [List.getD_eq_getElem?_getD, hlen, hw]
    · rw [if_neg e, f2 j hj']
      simp [List.getD_eq_getElem?_getD, List.getElem?_set_ne (Ne.symm e)]
  · rcases e with e | e | e
    · exact own_gt h.lo h.res (by decide) e
    · exact own_gt h.fo h.res (by decide) e
    · exact own_gt h.wo h.res (by decide) e
  · exact ⟨h.src.1.keep (fun k hk2 => hk k (by omega)), h.src.2.1, h.src.2.2.1, h.src.2.2.2.1, by rw [hsz]; exact h.src.2.2.2.2.1, fun k h1 h2 => (hk k (by omega)).trans (h.src.2.2.2.2.2 k h1 h2)⟩
end Go.Proofs.YtkaokfmaecdkiaaGreatDoor
