/-
  Drawn mains: their loops.
-/
import Derived.Test.YtfgmalnkpgloiaaGreatDoorMnI1
import Derived.Test.YtfgmalnkpgloiaaGreatDoorMnLo
import Derived.Maps.AppendAt
import Derived.BigRegion
import Derived.Deep.DeepCutAuto
import Derived.Deep.RegionHeld3
namespace Go.Proofs.YtfgmalnkpgloiaaGreatDoor
open Go.RowKit Go.Deep

theorem lpinfo_is : (Tryz.prog.info? 25).map (fun i => (i.zero, i.size, i.bytes)) = some (some (.slice none 0 0), 1, 24) := by kernel_rfl
theorem lpinfo_int : (Tryz.prog.info? 2).map (fun i => (i.zero, i.size, i.bytes)) = some (some (.int .i64 0), 1, 8) := by kernel_rfl
theorem lpmk_int (n : Nat) (hn : n ≤ 1048576) (w : World) : (Instr.makeSlice 25 (.int .i64 (n : Int)) (.int .i64 (n : Int))).run Tryz.prog w = .ok (.slice (some ⟨w.heap.size, 0, none⟩) n n) (w.alloc (.cells (madeCells #[.int .i64 0] n) 2)) :=
  run_make_row' (P := Tryz.prog) 25 2 (.int .i64 0) 8 Tryz.underlying25 lpinfo_int rfl .i64 .i64 n (by omega) (by omega) w
theorem lp_new (w : World) (n : Nat) : IsBlk 2 w.heap.size n (fun _ => 0) (w.alloc (.cells (madeCells #[.int .i64 0] n) 2)) := ⟨n, _, Nat.le_refl _, World.rowIs_made w (.int .i64 0) n 2, fun _ _ => rfl⟩
/-- What stands while the pipes that lead up are looked for. -/
structure LpA (m : Mn.Mains) (pa : Option Addr) (pk : Nat) (la : Option Addr) (lk : Nat) (wa : Option Addr) (wk : Nat) (U : Nat → Int) (w W : World) : Prop where
  row : W.rowIs w.heap.size 27 5 (rowN (mnL m pa pk la lk wa wk))
  o : W.ownsRow (w.heap.size + 1) 25 1 (.slice (some ⟨w.heap.size + 1, 0, none⟩) 0 0) 0 []
  u : IsBlk 2 (w.heap.size + 2) m.wn U W
  old : Below w.heap.size w W
theorem lpown_block {B n size : Nat} {e : TypeId} {v : Value} {xs : List Value} {W W' : World} (h : W.ownsRow B e size v n xs) (hb : ∀ k, v.ownBlock = some k → k < W.heap.size → W'.heap[k]? = W.heap[k]?) : W'.ownsRow B e size v n xs := by
  obtain ⟨h1, h2⟩ := h
  refine ⟨h1, ?_⟩
  rcases h2 with h2 | ⟨g, cap, cur, e1, e2, e3, e4⟩
  · exact Or.inl h2
  · refine Or.inr ⟨g, cap, cur, e1, e2, ?_, e4⟩
    have hlt : g < W.heap.size := by
      rcases Nat.lt_or_ge g W.heap.size with h | h
      · exact h
      · rw [Array.getElem?_eq_none h] at e3; cases e3
    rw [hb g (by rw [e1]; rfl) hlt]; exact e3
section
variable {m : Mn.Mains} {pa : Option Addr} {pk : Nat} {la : Option Addr} {lk : Nat} {wa : Option Addr} {wk : Nat} {U : Nat → Int} {w W W' : World}
theorem LpA.below (h : LpA m pa pk la lk wa wk U w W) (hb : Below W.heap.size W W') : LpA m pa pk la lk wa wk U w W' := ⟨nrow_below h.row hb, lpown_block h.o (fun k _ hl => hb.block k hl), h.u.below hb, h.old.trans (hb.mono h.old.size)⟩
theorem LpA.put (h : LpA m pa pk la lk wa wk U w W) (i : Nat) (x : Int) : LpA m pa pk la lk wa wk (updI U i x) w (W.setCell ⟨w.heap.size + 2, i, none⟩ (.int .i64 x)) :=
  ⟨h.row.of_block (Below.heap_setCell _ _ _ _ (by show w.heap.size ≠ w.heap.size + 2; omega)), lpown_block h.o (fun k hk _ => Below.heap_setCell _ _ _ _ (by
      have e : k = w.heap.size + 1 := by simp [Value.ownBlock] at hk; omega
      show k ≠ w.heap.size + 2; omega)), h.u.set i x, h.old.setCell (p := ⟨w.heap.size + 2, i, none⟩) (by show w.heap.size ≤ w.heap.size + 2; omega) _⟩
theorem LpA.congr {U' : Nat → Int} (h : LpA m pa pk la lk wa wk U w W) (e : ∀ j, j < m.wn → U j = U' j) : LpA m pa pk la lk wa wk U' w W := ⟨h.row, h.o, h.u.congr e, h.old⟩
theorem LpA.new (h : MnAt m pa la wa w) : LpA m pa pk la lk wa wk (fun _ => 0) w (((w.alloc (.cells #[.int .i64 m.nodes, .int .i64 m.head, .slice pa m.pn pk, .slice la m.ln lk, .slice wa m.wn wk] 27)).alloc (.cells #[] 25)).alloc (.cells (madeCells #[.int .i64 0] m.wn) 2)) := by
  have s := ((MnS.new 27 (pk := pk) (lk := lk) (wk := wk) h).alloc (.cells #[] 25)).alloc (.cells (madeCells #[.int .i64 0] m.wn) 2)
  refine ⟨s.row, ?_, ?_, s.old⟩
  · have := World.ownsRow_made (e := 25) (size := 1) (base := w.heap.size + 1) (w.alloc (.cells #[.int .i64 m.nodes, .int .i64 m.head, .slice pa m.pn pk, .slice la m.ln lk, .slice wa m.wn wk] 27)) #[] 0 (by simp) (Nat.zero_le _) rfl
    rw [World.size_alloc] at this
    exact lpown_block this (fun k _ hl => (nbel_alloc _ _).block k hl)
  · have := lp_new ((w.alloc (.cells #[.int .i64 m.nodes, .int .i64 m.head, .slice pa m.pn pk, .slice la m.ln lk, .slice wa m.wn wk] 27)).alloc (.cells #[] 25)) m.wn
    rw [World.size_alloc, World.size_alloc] at this
    exact this
/-- And which pipes lead up. -/
structure LpB (m : Mn.Mains) (pa : Option Addr) (pk : Nat) (la : Option Addr) (lk : Nat) (wa : Option Addr) (wk : Nat) (U : Nat → Int) (gs : Nat) (S : Nat → Bool) (w W : World) : Prop where
  a : LpA m pa pk la lk wa wk U w W
  s : MBl gs m.pn S W
  g : w.heap.size + 2 < gs
variable {gs : Nat} {S : Nat → Bool}
theorem LpB.below (h : LpB m pa pk la lk wa wk U gs S w W) (hb : Below W.heap.size W W') : LpB m pa pk la lk wa wk U gs S w W' := ⟨h.a.below hb, h.s.below hb, h.g⟩
theorem LpB.put (h : LpB m pa pk la lk wa wk U gs S w W) (i : Nat) (x : Int) : LpB m pa pk la lk wa wk (updI U i x) gs S w (W.setCell ⟨w.heap.size + 2, i, none⟩ (.int .i64 x)) :=
  ⟨h.a.put i x, h.s.block (Below.heap_setCell _ _ _ _ (by have := h.g; show gs ≠ w.heap.size + 2; omega)), h.g⟩
theorem LpB.mark (h : LpB m pa pk la lk wa wk U gs S w W) (i : Nat) (x : Bool) : LpB m pa pk la lk wa wk U gs (updB S i x) w (W.setCell ⟨gs, i, none⟩ (.bool x)) := by
  have hg := h.g
  exact ⟨⟨h.a.row.of_block (Below.heap_setCell _ _ _ _ (by show w.heap.size ≠ gs; omega)), lpown_block h.a.o (fun k hk _ => Below.heap_setCell _ _ _ _ (by
      have e : k = w.heap.size + 1 := by simp [Value.ownBlock] at hk; omega
      show k ≠ gs; omega)), h.a.u.block (Below.heap_setCell _ _ _ _ (by show w.heap.size + 2 ≠ gs; omega)), h.a.old.setCell (p := ⟨gs, i, none⟩) (by show w.heap.size ≤ gs; omega) _⟩, h.s.set i x, hg⟩
end
/-- Numbers, as values. -/
abbrev jvs (xs : List Int) : List Value := xs.map (Value.int .i64)
/-- A list of numbers that a call owns. -/
abbrev OwnJ (B : Nat) (v : Value) (xs : List Int) (W : World) : Prop := W.ownsRow B 2 1 v xs.length (jvs xs)
theorem lpown_below {B n size : Nat} {e : TypeId} {v : Value} {xs : List Value} {W W' : World} (h : W.ownsRow B e size v n xs) (hb : Below W.heap.size W W') : W'.ownsRow B e size v n xs := lpown_block h (fun k _ hl => hb.block k hl)
theorem lpown_low {B B' n size : Nat} {e : TypeId} {v : Value} {xs : List Value} {W : World} (h : W.ownsRow B e size v n xs) (hb : B' ≤ B) : W.ownsRow B' e size v n xs := ⟨h.1, h.2.imp id (fun ⟨g, cap, cur, e1, e2, r⟩ => ⟨g, cap, cur, e1, Nat.le_trans hb e2, r⟩)⟩
theorem lpown_shape {B n size : Nat} {e : TypeId} {v : Value} {xs : List Value} {W : World} (h : W.ownsRow B e size v n xs) : ∃ a c, v = .slice a n c := by
  rcases h.2 with h | ⟨g, cp, _, e, _⟩
  · exact ⟨none, 0, by rw [h.1, h.2]⟩
  · exact ⟨_, _, e⟩
theorem lpown_rne {B : Nat} {e : TypeId} {s : Nat} {v : Value} {n : Nat} {xs : List Value} {w : World} {h : Nat} {t : TypeId} {k : Nat} {G : Nat → Value} (h1 : w.ownsRow B e s v n xs) (h2 : w.rowIs h t k G) (hne : e ≠ t) : some h ≠ v.ownBlock := by
  intro hh
  obtain ⟨_, h3⟩ := h1
  rcases h3 with ⟨rfl, _⟩ | ⟨g, cap, cur, rfl, e2, e3, e4⟩
  · cases hh
  · have hgh : h = g := Option.some.inj hh
    subst hgh
    obtain ⟨c', e5, _⟩ := h2
    rw [e3] at e5
    cases e5
    exact hne rfl
theorem lpown_one {B B' : Nat} {e e' : TypeId} {s s' : Nat} {v v' : Value} {n n' : Nat} {xs xs' : List Value} {w : World} (h1 : w.ownsRow B e s v n xs) (h2 : w.ownsRow B' e' s' v' n' xs') (hne : e ≠ e') : ∀ g, v.ownBlock = some g → some g ≠ v'.ownBlock := by
  intro g hg hh
  obtain ⟨_, h3⟩ := h1
  obtain ⟨_, h4⟩ := h2
  rcases h3 with ⟨rfl, _⟩ | ⟨g1, cap, cur, rfl, e2, e3, _⟩
  · cases hg
  rcases h4 with ⟨rfl, _⟩ | ⟨g2, cap2, cur2, rfl, f2, f3, _⟩
  · cases hh
  have a1 : g1 = g := Option.some.inj hg
  have a2 : g = g2 := Option.some.inj hh
  subst a1; subst a2
  rw [e3] at f3
  cases f3
  exact hne rfl
theorem OwnJ.at_ {B : Nat} {v : Value} {xs : List Int} {W : World} (h : OwnJ B v xs W) : ∃ a c, v = .slice a xs.length c ∧ IsAt a xs.length (fun i => xs.getD i 0) W := by
  rcases h.2 with ⟨e1, e2⟩ | ⟨g, cap, cur, e1, _⟩
  · exact ⟨none, 0, by rw [e1, e2], Or.inl e2⟩
  · refine ⟨_, cap, e1, Or.inr ⟨g, rfl, fun i hi => ?_⟩⟩
    have := World.ownsRow.cells h (show v.ownBlock = some g by rw [e1]; rfl) i (.int .i64 (xs.getD i 0)) (by simp [jvs, hi])
    rw [Addr.add_lit, Nat.zero_add] at this
    exact this
/-- Two lists of a call. -/
structure TwJ (B : Nat) (v1 : Value) (xs : List Int) (v2 : Value) (ys : List Int) (W : World) : Prop where
  one : OwnJ B v1 xs W
  two : OwnJ B v2 ys W
  ne : ∀ g, v1.ownBlock = some g → v2.ownBlock ≠ some g
section
variable {B : Nat} {v1 : Value} {xs : List Int} {v2 : Value} {ys : List Int} {W : World}
theorem TwJ.below {W' : World} (h : TwJ B v1 xs v2 ys W) (hb : Below W.heap.size W W') : TwJ B v1 xs v2 ys W' := ⟨lpown_below h.one hb, lpown_below h.two hb, h.ne⟩
theorem jkept_other {v v' : Value} {xs : List Int} {W W' : World} {o : Obj} (h : OwnJ B v xs W) (hg : (W.alloc o).grownBy W' v'.ownBlock) (hne : ∀ g, v'.ownBlock = some g → v.ownBlock ≠ some g) : OwnJ B v xs W' := by
  refine World.ownsRow.kept (World.ownsRow.alloc h o) hg ?_
  cases hv : v'.ownBlock with
  | none => cases hv2 : v.ownBlock with
    | none => exact Or.inl rfl
    | some k => exact Or.inr (by simp)
  | some k => exact Or.inr (fun e => hne k hv e)
theorem TwJ.push1 {W' : World} {v' : Value} {o : Obj} {x : Int} (h : TwJ B v1 xs v2 ys W) (hown : W'.ownsRow B 2 1 v' (xs.length + 1) (jvs xs ++ [.int .i64 x])) (hg : (W.alloc o).grownBy W' v1.ownBlock) (hat : v'.ownBlock = v1.ownBlock ∨ v'.ownBlock = some (W.alloc o).heap.size) : TwJ B v' (xs ++ [x]) v2 ys W' := by
  refine ⟨by simpa [OwnJ, jvs] using hown, jkept_other h.two hg h.ne, fun g hg1 hg2 => ?_⟩
  rcases hat with e | e
  · rw [e] at hg1; exact h.ne g hg1 hg2
  · rw [e] at hg1
    have h1 := (World.ownsRow.lt h.two g hg2).2
    simp at hg1
    omega
theorem TwJ.push2 {W' : World} {v' : Value} {o : Obj} {x : Int} (h : TwJ B v1 xs v2 ys W) (hown : W'.ownsRow B 2 1 v' (ys.length + 1) (jvs ys ++ [.int .i64 x])) (hg : (W.alloc o).grownBy W' v2.ownBlock) (hat : v'.ownBlock = v2.ownBlock ∨ v'.ownBlock = some (W.alloc o).heap.size) : TwJ B v1 xs v' (ys ++ [x]) W' := by
  refine ⟨jkept_other h.one hg (fun g h1 h2 => h.ne g h2 h1), by simpa [OwnJ, jvs] using hown, fun g hg1 hg2 => ?_⟩
  rcases hat with e | e
  · rw [e] at hg2; exact h.ne g hg1 hg2
  · rw [e] at hg2
    have h1 := (World.ownsRow.lt h.one g hg1).2
    simp at hg2
    omega
theorem TwJ.new (w : World) (x : Int) : TwJ w.heap.size (.slice (some ⟨w.heap.size, 0, none⟩) 1 1) [x] (.slice (some ⟨w.heap.size + 1, 0, none⟩) 0 0) [] ((w.alloc (.cells #[.int .i64 x] 2)).alloc (.cells #[] 2)) := by
  refine ⟨?_, ?_, fun g h1 h2 => ?_⟩
  · refine lpown_below (W := w.alloc (.cells #[.int .i64 x] 2)) ?_ (nbel_alloc _ _)
    exact ⟨rfl, .inr ⟨w.heap.size, 1, #[.int .i64 x], rfl, Nat.le_refl _, heap_alloc_new w _, Nat.le_refl _, by decide, rfl, rfl⟩⟩
  · have := World.ownsRow_made (e := 2) (size := 1) (base := w.heap.size) (w.alloc (.cells #[.int .i64 x] 2)) #[] 0 (by simp) (Nat.zero_le _) rfl
    rw [World.size_alloc] at this
    exact this
  · simp [Value.ownBlock] at h1 h2
    omega
end
/-- What stands while loops are made. -/
structure LpC (m : Mn.Mains) (pa : Option Addr) (pk : Nat) (la : Option Addr) (lk : Nat) (wa : Option Addr) (wk : Nat) (U : Nat → Int) (gs : Nat) (S : Nat → Bool) (v : Value) (qs : List (Value × List Int)) (w W : World) : Prop where
  row : W.rowIs w.heap.size 27 5 (rowN (mnL m pa pk la lk wa wk))
  u : IsBlk 2 (w.heap.size + 2) m.wn U W
  s : MBl gs m.pn S W
  old : Below w.heap.size w W
  own : W.ownsRow (w.heap.size + 1) 25 1 v qs.length (qs.map Prod.fst)
  all : ∀ x, x ∈ qs → OwnJ w.heap.size x.1 x.2 W ∧ x.2.length ≤ 2 * m.wn + 1
section
variable {m : Mn.Mains} {pa : Option Addr} {pk : Nat} {la : Option Addr} {lk : Nat} {wa : Option Addr} {wk : Nat} {U : Nat → Int} {gs : Nat} {S : Nat → Bool} {v : Value} {qs : List (Value × List Int)} {w W W' : World}
theorem LpB.to (h : LpB m pa pk la lk wa wk U gs S w W) : LpC m pa pk la lk wa wk U gs S (.slice (some ⟨w.heap.size + 1, 0, none⟩) 0 0) [] w W := ⟨h.a.row, h.a.u, h.s, h.a.old, h.a.o, fun x hx => by cases hx⟩
theorem LpC.below (h : LpC m pa pk la lk wa wk U gs S v qs w W) (hb : Below W.heap.size W W') : LpC m pa pk la lk wa wk U gs S v qs w W' :=
  ⟨nrow_below h.row hb, h.u.below hb, h.s.below hb, h.old.trans (hb.mono h.old.size), lpown_below h.own hb, fun x hx => ⟨lpown_below (h.all x hx).1 hb, (h.all x hx).2⟩⟩
theorem LpC.push {v' : Value} {x : Value × List Int} {o : Obj} (h : LpC m pa pk la lk wa wk U gs S v qs w W) (hx : OwnJ w.heap.size x.1 x.2 W ∧ x.2.length ≤ 2 * m.wn + 1) (hg : (W.alloc o).grownBy W' v.ownBlock)
    (hown : W'.ownsRow (w.heap.size + 1) 25 1 v' (qs.length + 1) (qs.map Prod.fst ++ [x.1])) : LpC m pa pk la lk wa wk U gs S v' (qs ++ [x]) w W' := by
  have hk : ∀ k, k < W.heap.size → some k ≠ v.ownBlock → W'.heap[k]? = W.heap[k]? := fun k hk hn => by
    rw [hg.block k (by simp; omega) hn]
    exact blk_alloc_lt _ _ _ hk
  have hj : ∀ {y : Value} {ys : List Int}, OwnJ w.heap.size y ys W → OwnJ w.heap.size y ys W' := fun {y ys} hy => lpown_block hy (fun k e hl => hk k hl (lpown_one hy h.own (by decide) k e))
  refine ⟨h.row.of_block (hk _ h.row.lt (lpown_rne h.own h.row (by decide))), ?_, ?_, ?_, by simpa using hown, fun y hy => ?_⟩
  · refine h.u.block (hk _ h.u.lt ?_)
    obtain ⟨m9, F9, _, hr, _⟩ := h.u
    exact lpown_rne h.own hr (by decide)
  · refine h.s.block (hk _ h.s.lt ?_)
    obtain ⟨F9, hr, _⟩ := h.s
    exact lpown_rne h.own hr (by decide)
  · exact (h.old.alloc h.old.size _).grown hg (by have := h.old.size; simp; omega) (fun k hk => by have := (World.ownsRow.lt h.own k hk).1; omega)
  · rcases List.mem_append.1 hy with hy | hy
    · exact ⟨hj (h.all y hy).1, (h.all y hy).2⟩
    · obtain rfl : y = x := by simpa using hy
      exact ⟨hj hx.1, hx.2⟩
theorem LpC.ls (h : LpC m pa pk la lk wa wk U gs S v qs w W) : ∃ a c LN L, v = .slice a qs.length c ∧ LsAt a qs.length LN L W ∧ ∀ i, i < qs.length → LN i ≤ 2 * m.wn + 1 := by
  have hq : ∀ k, (hk : k < qs.length) → qs.getD k (.slice none 0 0, []) = qs[k] := fun k hk => by
    rw [List.getD_eq_getElem?_getD, List.getElem?_eq_getElem hk]; rfl
  have hlen : ∀ i, i < qs.length → (fun i => (qs.getD i (.slice none 0 0, [])).2.length) i ≤ 2 * m.wn + 1 := fun k hk => by
    show (qs.getD k _).2.length ≤ _
    rw [hq k hk]; exact (h.all _ (List.getElem_mem hk)).2
  rcases h.own.2 with ⟨e1, e2⟩ | ⟨g, cap, cur, e1, _⟩
  · exact ⟨none, 0, _, fun _ _ => 0, by rw [e1, e2], Or.inl e2, hlen⟩
  · refine ⟨some ⟨g, 0, none⟩, cap, _, fun i k => (qs.getD i (.slice none 0 0, [])).2.getD k 0, e1, Or.inr ⟨g, rfl, fun k hk => ?_⟩, hlen⟩
    obtain ⟨a, c, e3, e4⟩ := (h.all _ (List.getElem_mem hk)).1.at_
    have := h.own.cells (show v.ownBlock = some g by rw [e1]; rfl) k qs[k].1 (by rw [List.getElem?_map, List.getElem?_eq_getElem hk]; rfl)
    rw [Addr.add_lit, Nat.zero_add, e3] at this
    refine ⟨a, c, ?_, ?_⟩
    · show _ = some (Value.slice a (qs.getD k _).2.length c)
      rw [hq k hk]; exact this
    · show IsAt a (qs.getD k _).2.length (fun i => (qs.getD k _).2.getD i 0) W
      rw [hq k hk]; exact e4
end
/-- What the loops of drawn mains are. -/
def LpEnd (m : Mn.Mains) (B : Nat) (e : Ending) (W : World) : Prop := ∃ (v : Value) (qs : List (Value × List Int)), e = .returned v ∧ qs.length ≤ 12 ∧ W.ownsRow B 25 1 v qs.length (qs.map Prod.fst) ∧ ∀ x, x ∈ qs → OwnJ B x.1 x.2 W ∧ x.2.length ≤ 2 * m.wn + 1
set_option maxRecDepth 100000 in
set_option maxHeartbeats 16000000 in
theorem sloops_any (m : Mn.Mains) (pa : Option Addr) (pk : Nat) (la : Option Addr) (lk : Nat) (wa : Option Addr) (wk : Nat) (w : World) (h : MnAt m pa la wa w) (hpn : m.pn ≤ 1000) (hwn : m.wn ≤ 1000) (hP : Mn.PR m.wn m.pn m.P) (hC : Mn.Cov m.wn m.pn m.P) :
    Calls Tryz.prog 58 #[mnV m pa pk la lk wa wk] w fun e w' => LpEnd m w.heap.size e w' ∧ Below w.heap.size w w' := by
  obtain ⟨i0, hi0, hz0, hz1, hz2⟩ := info_parts lpinfo_int
  obtain ⟨i1, hi1, hy0, hy1, hy2⟩ := info_parts lpinfo_is
  have hmk := lpmk_int m.wn (by omega)
  have hmk2 := mmk_bool m.pn (by omega)
  have ST := Lib.hid (LpA.new (pk := pk) (lk := lk) (wk := wk) h)
  have HAT := Lib.hid h
  have HP := Lib.hid hP
  have HC := Lib.hid hC
  obtain ⟨W0, hW0⟩ : ∃ W0, W0 = (((w.alloc (.cells #[.int .i64 m.nodes, .int .i64 m.head, .slice pa m.pn pk, .slice la m.ln lk, .slice wa m.wn wk] 27)).alloc (.cells #[] 25)).alloc (.cells (madeCells #[.int .i64 0] m.wn) 2)) := ⟨_, rfl⟩
  rw [← hW0] at ST
  have HW0 := Lib.hid hW0
  clear h hP hC hW0
  go_enter Tryz.func58, Tryz.ntmps58
  go_wp2_with fail
  rw [← HW0.out]
  clear HW0 hmk
  go_loopw [6] (fun iv wr => ∃ (i : Nat), i ≤ m.wn ∧ iv = .int .i64 i ∧ Hid (LpA m pa pk la lk wa wk (fun _ => 0) w wr)) (fun iv _ => m.wn - (intOf iv).toNat)
  case atStart => exact ⟨0, Nat.zero_le _, rfl, ST⟩
  case round =>
    obtain ⟨i, hi, rfl, hS⟩ := hrel
    clear ST
    obtain ⟨⟨r0, r1, r2, r3, r4⟩, _⟩ := rowN5 hS.out.row
    by_cases hlt : i < m.wn
    · have hltz : (i : Int) < (m.wn : Int) := by omega
      have c0 := hS.out.u.cell hlt
      have c1 := hS.out.u.frozen i
      go_wp2_with fail
      go_roundw
      case rel => exact ⟨i + 1, by omega, by go_num, (hS.out.put i 0).congr (fun j _ => by unfold updI; split <;> rfl)⟩
      case measure => simp [intOf]; omega
    · obtain rfl : i = m.wn := by omega
      have hsz : w.heap.size + 2 < wr.heap.size := hS.out.u.lt
      have S1 : Hid (LpB m pa pk la lk wa wk (fun _ => 0) wr.heap.size (fun _ => false) w (wr.alloc (.cells (madeCells #[.bool false] m.pn) 4))) := ⟨hS.out.below (nbel_alloc _ _), mbl_new wr m.pn, hsz⟩
      obtain ⟨W1, hW1⟩ : ∃ W1, W1 = wr.alloc (.cells (madeCells #[.bool false] m.pn) 4) := ⟨_, rfl⟩
      rw [← hW1] at S1
      have HW1 := Lib.hid hW1
      clear hS hW1
      go_wp2_with fail
      rw [← HW1.out]
      clear HW1 hmk2 r0 r1 r2 r3 r4
      generalize wr.heap.size = gs at *
      go_loopw [8] (fun iv wr => ∃ (i : Nat) (U : Nat → Int) (S : Nat → Bool), i ≤ m.pn ∧ iv = .int .i64 i ∧ Hid (LpB m pa pk la lk wa wk U gs S w wr) ∧ Hid (Mn.UI m.wn m.pn m.P i U)) (fun iv _ => m.pn - (intOf iv).toNat)
      case atStart => exact ⟨0, _, _, Nat.zero_le _, rfl, S1, Mn.ui_start _ _ _⟩
      case round =>
        obtain ⟨i, U, S, hi, rfl, hS, hU⟩ := hrel
        clear S1
        obtain ⟨⟨r0, r1, r2, r3, r4⟩, _⟩ := rowN5 hS.out.a.row
        by_cases hlt : i < m.pn
        · have hltz : (i : Int) < (m.pn : Int) := by omega
          obtain ⟨b, e, c0, c1, c2, c3, c4⟩ := (HAT.out.p.below hS.out.a.old).at5 hlt
          subst e
          obtain ⟨p0, p1, p2⟩ := HP.out i hlt
          obtain ⟨t, ht⟩ : ∃ t : Nat, m.P (i * 5 + 2) = (t : Int) := ⟨(m.P (i * 5 + 2)).toNat, by omega⟩
          rw [ht] at c2 p1 p2
          have htl : t < m.wn := by omega
          obtain ⟨W2, hW2⟩ : ∃ W2, W2 = wr.alloc (.cells #[.int .i64 (m.P (i * 5)), .int .i64 (m.P (i * 5 + 1)), .int .i64 (t : Int), .int .i64 (m.P (i * 5 + 3)), .int .i64 (m.P (i * 5 + 4))] 36) := ⟨_, rfl⟩
          have HW2 := Lib.hid hW2
          have S2 : Hid (LpB m (some ⟨b, 0, none⟩) pk la lk wa wk U gs S w W2) := by
            show LpB _ _ _ _ _ _ _ _ _ _ _ _
            rw [hW2]; exact hS.out.below (nbel_alloc _ _)
          obtain ⟨⟨q0, q1, q2, q3, q4⟩, _⟩ := rowN5 (show W2.rowIs wr.heap.size 36 5 (rowN [.int .i64 (m.P (i * 5)), .int .i64 (m.P (i * 5 + 1)), .int .i64 (t : Int), .int .i64 (m.P (i * 5 + 3)), .int .i64 (m.P (i * 5 + 4))]) by rw [hW2]; exact rowN_alloc wr _ _)
          have HT := Lib.hid ht
          clear ht hW2
          go_upto_region 13 with fail
          rw [← HW2.out]
          clear hS HW2 c0 c1 c2 c3 c4 r0 r1 r2 r3 r4
          have d0 := S2.out.a.u.cell htl
          have d1 := S2.out.a.u.frozen t
          have e0 := S2.out.s.cell hlt
          have e1 := S2.out.s.frozen i
          by_cases hu : U t = 0
          · rw [hu] at d0
            go_wp2_with fail
            go_roundw
            case rel =>
              refine ⟨i + 1, updI U t ((i : Int) + 1), updB S i true, by omega, by go_num, (S2.out.put t _).mark i true, ?_⟩
              have := Mn.ui_take HP.out hlt hU.out
              rw [show (m.P (i * 5 + 2)).toNat = t by have := HT.out; omega] at this
              exact this
            case measure => simp [intOf]; omega
          · go_wp2_with fail
            go_roundw
            case rel =>
              refine ⟨i + 1, U, S, by omega, by go_num, S2, Mn.ui_keep hU.out ?_⟩
              rw [show (m.P (i * 5 + 2)).toNat = t by have := HT.out; omega]
              exact hu
            case measure => simp [intOf]; omega
        · obtain rfl : i = m.pn := by omega
          have C0 := Lib.hid hS.out.to
          have HU : Hid (∀ j : Nat, 1 ≤ j → j < m.wn → 1 ≤ U j ∧ U j ≤ (m.pn : Int) ∧ 0 ≤ m.P ((U j - 1).toNat * 5 + 1) ∧ m.P ((U j - 1).toNat * 5 + 1) < (j : Int)) := fun j h1 h2 => Mn.ui_up hU.out HC.out h1 h2
          clear hS hU
          go_wp2_with fail
          clear r0 r1 r2 r3 r4
          go_loopw [3, 10] (fun ov iv wr => ∃ (i : Nat) (qs : List (Value × List Int)), i ≤ m.pn ∧ qs.length ≤ 12 ∧ iv = .int .i64 i ∧ Hid (LpC m pa pk la lk wa wk U gs S ov qs w wr)) (fun _ iv _ => m.pn - (intOf iv).toNat)
          case atStart => exact ⟨0, [], Nat.zero_le _, Nat.zero_le _, rfl, C0⟩
          case round =>
            obtain ⟨i, qs, hi, hq, rfl, hS⟩ := hrel
            obtain ⟨WR, hWR⟩ : ∃ w', w' = wr := ⟨_, rfl⟩
            subst hWR
            clear C0
            obtain ⟨av, cv, rfl⟩ := lpown_shape hS.out.own
            obtain ⟨⟨r0, r1, r2, r3, r4⟩, _⟩ := rowN5 hS.out.row
            by_cases hlt : i < m.pn
            · have hltz : (i : Int) < (m.pn : Int) := by omega
              by_cases hq12 : qs.length < 12
              · have hqz : (qs.length : Int) < 12 := by omega
                have e0 := hS.out.s.cell hlt
                cases hs : S i with
                | true =>
                  rw [hs] at e0
                  clear hs
                  go_wp2_with fail
                  go_roundw
                  case rel => exact ⟨i + 1, qs, by omega, hq, by go_num, hS⟩
                  case measure => simp [intOf]; omega
                | false =>
                  rw [hs] at e0
                  clear hs
                  obtain ⟨W3, hW3⟩ : ∃ W3, W3 = (WR.alloc (.cells #[.int .i64 ((i : Int) + 1)] 2)).alloc (.cells #[] 2) := ⟨_, rfl⟩
                  have T3 := Lib.hid (TwJ.new WR ((i : Int) + 1))
                  have B3 : Hid (Below WR.heap.size WR W3) := by
                    show Below _ _ _
                    rw [hW3]; exact (nbel_alloc _ _).alloc (by simp) _
                  rw [← hW3] at T3
                  have HW3 := Lib.hid hW3
                  clear hW3
                  go_upto_region 22 with fail
                  rw [← HW3.out]
                  clear HW3 e0 r0 r1 r2 r3 r4
                  have C3 := Lib.hid (hS.out.below B3.out)
                  obtain ⟨⟨r0, r1, r2, r3, r4⟩, _⟩ := rowN5 C3.out.row
                  obtain ⟨b, e, c0, c1, c2, c3, c4⟩ := (HAT.out.p.below C3.out.old).at5 hlt
                  subst e
                  obtain ⟨p0, p1, p2⟩ := HP.out i hlt
                  obtain ⟨t, ht⟩ : ∃ t : Nat, m.P (i * 5 + 2) = (t : Int) := ⟨(m.P (i * 5 + 2)).toNat, by omega⟩
                  obtain ⟨f, hf⟩ : ∃ f : Nat, m.P (i * 5 + 1) = (f : Int) := ⟨(m.P (i * 5 + 1)).toNat, by omega⟩
                  rw [ht] at c2 p1 p2
                  rw [hf] at c1 p1
                  clear ht hf p0 c0 c3 c4
                  go_wp2_with fail
                  clear r0 r1 r2 r3 r4 c1 c2 C3
                  go_loopw [11, 12, 13, 14] (fun lv bv av zv wx => ∃ (xs ys : List Int) (a' b' : Nat), av = .int .i64 a' ∧ zv = .int .i64 b' ∧ a' < m.wn ∧ b' < m.wn ∧ 1 ≤ xs.length ∧ xs.length + ys.length + a' + b' ≤ 2 * m.wn ∧ Hid (TwJ WR.heap.size lv xs bv ys wx) ∧ Hid (Below WR.heap.size WR wx)) (fun _ _ av zv _ => (intOf av).toNat + (intOf zv).toNat)
                  case atStart => exact ⟨[(i : Int) + 1], [], t, f, rfl, rfl, by omega, by omega, by simp, by simp; omega, T3, B3⟩
                  case round =>
                    obtain ⟨xs, ys, a', b', rfl, rfl, ha, hb, hx1, hx2, hT, hB⟩ := hrel
                    clear T3 B3
                    obtain ⟨a1, k1, rfl⟩ := lpown_shape hT.out.one
                    obtain ⟨a2, k2, rfl⟩ := lpown_shape hT.out.two
                    by_cases hab : a' = b'
                    · subst hab
                      go_wp2_with fail
                      go_loopw [11, 15] (fun lv jv wx => ∃ (xs : List Int) (j : Int), jv = .int .i64 j ∧ -1 ≤ j ∧ j < (ys.length : Int) ∧ (xs.length : Int) + j ≤ 2 * (m.wn : Int) ∧ 1 ≤ xs.length ∧ Hid (TwJ WR.heap.size lv xs (.slice a2 ys.length k2) ys wx) ∧ Hid (Below WR.heap.size WR wx)) (fun _ jv _ => (intOf jv + 1).toNat)
                      case atStart => exact ⟨xs, (ys.length : Int) - 1, rfl, by omega, by omega, by omega, hx1, hT, hB⟩
                      case round =>
                        clear hT hB hx1 hx2
                        obtain ⟨xs, j, rfl, j0, j1, j2, hx1, hT, hB⟩ := hrel
                        obtain ⟨a1, k1, rfl⟩ := lpown_shape hT.out.one
                        by_cases hj : 0 ≤ j
                        · obtain ⟨k, rfl⟩ : ∃ k : Nat, j = (k : Int) := ⟨j.toNat, by omega⟩
                          obtain ⟨aa, cc, ee, hat⟩ := OwnJ.at_ hT.out.two
                          cases ee
                          obtain ⟨g2, e2, y0⟩ := hat.at1 (i := k) (by omega)
                          subst e2
                          clear hat
                          obtain ⟨y, hy⟩ : ∃ y, y = ys.getD k 0 := ⟨_, rfl⟩
                          rw [← hy] at y0
                          clear hy
                          go_wp2_with (at_builtin; refine wpList_append_own_at _ rfl _ _ 25 rfl WR.heap.size 2 i0 (.int .i64 0) 1 8 Tryz.underlying25 hi0 hz0 hz1 hz2 rfl (by decide) _ _ _ rfl (World.ownsRow.alloc hT.out.one _) ⟨wr.heap.size, 0, none⟩ 1 1 [.int .i64 y] rfl rfl (cell_one_new _ _ _) ?c2 ?c3 ?c4 ?c5 ?_)
                          case c2 => first | rfl | (intro u hu; simp at hu; subst hu; rfl)
                          case c3 => unfold maxLen; omega
                          case c4 => omega
                          case c5 => have := hB.out.size; first | omega | (simp; done) | (simp; omega)
                          intro va wA hown hgrow _ hatb
                          have B5 : Hid (Below WR.heap.size WR wA) := (hB.out.alloc hB.out.size _).grown hgrow (by have := hB.out.size; first | omega | (simp; done) | (simp; omega)) (fun k hk => (World.ownsRow.lt hT.out.one k hk).1)
                          have T5 := Lib.hid (TwJ.push1 hT.out hown hgrow (by simpa using hatb))
                          clear hown hgrow hatb hT hB y0
                          go_wp2_with fail
                          go_roundw
                          case rel => exact ⟨xs ++ [y], (k : Int) - 1, by go_num, by omega, by omega, by simp; omega, by simp, T5, B5⟩
                          case measure => simp [intOf]
                        · obtain rfl : j = -1 := by omega
                          have hl : xs.length ≤ 2 * m.wn + 1 := by omega
                          have C6 := Lib.hid (hS.out.below hB.out)
                          have HX : Hid (OwnJ w.heap.size (.slice a1 xs.length k1) xs wr ∧ xs.length ≤ 2 * m.wn + 1) := ⟨lpown_low hT.out.one hS.out.old.size, hl⟩
                          clear hT hB hS
                          go_wp2_with (at_builtin; refine wpList_append_own _ rfl _ _ 24 rfl (w.heap.size + 1) 25 i1 (.slice none 0 0) 1 24 Tryz.underlying24 hi1 hy0 hy1 hy2 rfl (by decide) _ _ _ rfl (C6.out.own.alloc _) ⟨wr.heap.size, 0, none⟩ 1 1 [.slice a1 xs.length k1] rfl rfl (cell_one_new _ _ _) ?k2 ?k3 ?k4 ?k5 ?_)
                          case k2 => first | rfl | (intro u hu; simp at hu; subst hu; rfl)
                          case k3 => unfold maxLen; omega
                          case k4 => omega
                          case k5 => have := C6.out.u.lt; first | omega | (simp; omega)
                          intro v' wB hown hgrow _
                          have C7 : Hid (LpC m _ pk la lk wa wk U gs S v' (qs ++ [(.slice a1 xs.length k1, xs)]) w wB) := C6.out.push (x := (.slice a1 xs.length k1, xs)) HX.out hgrow hown
                          clear hown hgrow C6 HX
                          go_wp2_with fail
                          go_roundw
                          case rel => exact ⟨i + 1, qs ++ [(.slice a1 xs.length k1, xs)], by omega, by simp; omega, by go_num, C7⟩
                          case measure => simp [intOf]; omega
                    by_cases hgt : b' < a'
                    · have hgtz : (b' : Int) < (a' : Int) := by omega
                      have hnez : (a' : Int) ≠ (b' : Int) := by omega
                      obtain ⟨g1, g2, g3, g4⟩ := HU.out a' (by omega) (by omega)
                      obtain ⟨k, hk⟩ : ∃ k : Nat, U a' = (k : Int) + 1 := ⟨(U a' - 1).toNat, by omega⟩
                      have hkp : k < m.pn := by omega
                      have hkz : (k : Int) < (m.pn : Int) := by omega
                      rw [show (U a' - 1).toNat = k by omega] at g3 g4
                      obtain ⟨f', hf⟩ : ∃ f' : Nat, m.P (k * 5 + 1) = (f' : Int) := ⟨(m.P (k * 5 + 1)).toNat, by omega⟩
                      rw [hf] at g4
                      have C4 := Lib.hid (hS.out.below hB.out)
                      have d0 := C4.out.u.cell (i := a') (by omega)
                      rw [hk] at d0
                      go_wp2_with (at_builtin; refine wpList_append_own_at _ rfl _ _ 25 rfl WR.heap.size 2 i0 (.int .i64 0) 1 8 Tryz.underlying25 hi0 hz0 hz1 hz2 rfl (by decide) _ _ _ rfl (World.ownsRow.alloc hT.out.one _) ⟨wr.heap.size, 0, none⟩ 1 1 [.int .i64 (-((k : Int) + 1))] rfl rfl (cell_one_new _ _ _) ?c2 ?c3 ?c4 ?c5 ?_)
                      case c2 => first | rfl | (intro u hu; simp at hu; subst hu; rfl)
                      case c3 => unfold maxLen; omega
                      case c4 => omega
                      case c5 => have := hB.out.size; first | omega | (simp; done) | (simp; omega)
                      intro va wA hown hgrow _ hatb
                      have B5 : Hid (Below WR.heap.size WR wA) := (hB.out.alloc hB.out.size _).grown hgrow (by have := hB.out.size; first | omega | (simp; done) | (simp; omega)) (fun k hk => (World.ownsRow.lt hT.out.one k hk).1)
                      have T5 := Lib.hid (TwJ.push1 hT.out hown hgrow (by simpa using hatb))
                      have C5 := Lib.hid (hS.out.below B5.out)
                      clear hown hgrow hatb hT hB C4 d0
                      have d0 := C5.out.u.cell (i := a') (by omega)
                      rw [hk] at d0
                      obtain ⟨⟨r0, r1, r2, r3, r4⟩, _⟩ := rowN5 C5.out.row
                      obtain ⟨b9, e, c0, c1, c2, c3, c4⟩ := (HAT.out.p.below C5.out.old).at5 hkp
                      cases e
                      rw [hf] at c1
                      clear c0 c2 c3 c4 C5 g1 g2 g3 hf hk
                      go_wp2_with fail
                      go_quiet (fail)
                      go_wp2_with fail
                      exact ⟨⟨xs ++ [-((k : Int) + 1)], ys, f', b', rfl, rfl, by omega, by omega, by simp, by simp; omega, T5.out.below (ndrewN (Below.refl _ _) _), ndrewN B5.out _⟩, by simp [intOf]; omega⟩
                    · have hgtz : ¬ (b' : Int) < (a' : Int) := by omega
                      have hnez : (a' : Int) ≠ (b' : Int) := by omega
                      obtain ⟨g1, g2, g3, g4⟩ := HU.out b' (by omega) (by omega)
                      obtain ⟨k, hk⟩ : ∃ k : Nat, U b' = (k : Int) + 1 := ⟨(U b' - 1).toNat, by omega⟩
                      have hkp : k < m.pn := by omega
                      have hkz : (k : Int) < (m.pn : Int) := by omega
                      rw [show (U b' - 1).toNat = k by omega] at g3 g4
                      obtain ⟨f', hf⟩ : ∃ f' : Nat, m.P (k * 5 + 1) = (f' : Int) := ⟨(m.P (k * 5 + 1)).toNat, by omega⟩
                      rw [hf] at g4
                      have C4 := Lib.hid (hS.out.below hB.out)
                      have d0 := C4.out.u.cell (i := b') (by omega)
                      rw [hk] at d0
                      go_wp2_with (at_builtin; refine wpList_append_own_at _ rfl _ _ 25 rfl WR.heap.size 2 i0 (.int .i64 0) 1 8 Tryz.underlying25 hi0 hz0 hz1 hz2 rfl (by decide) _ _ _ rfl (World.ownsRow.alloc hT.out.two _) ⟨wr.heap.size, 0, none⟩ 1 1 [.int .i64 ((k : Int) + 1)] rfl rfl (cell_one_new _ _ _) ?c2 ?c3 ?c4 ?c5 ?_)
                      case c2 => first | rfl | (intro u hu; simp at hu; subst hu; rfl)
                      case c3 => unfold maxLen; omega
                      case c4 => omega
                      case c5 => have := hB.out.size; first | omega | (simp; done) | (simp; omega)
                      intro va wA hown hgrow _ hatb
                      have B5 : Hid (Below WR.heap.size WR wA) := (hB.out.alloc hB.out.size _).grown hgrow (by have := hB.out.size; first | omega | (simp; done) | (simp; omega)) (fun k hk => (World.ownsRow.lt hT.out.two k hk).1)
                      have T5 := Lib.hid (TwJ.push2 hT.out hown hgrow (by simpa using hatb))
                      have C5 := Lib.hid (hS.out.below B5.out)
                      clear hown hgrow hatb hT hB C4 d0
                      have d0 := C5.out.u.cell (i := b') (by omega)
                      rw [hk] at d0
                      obtain ⟨⟨r0, r1, r2, r3, r4⟩, _⟩ := rowN5 C5.out.row
                      obtain ⟨b9, e, c0, c1, c2, c3, c4⟩ := (HAT.out.p.below C5.out.old).at5 hkp
                      cases e
                      rw [hf] at c1
                      clear c0 c2 c3 c4 C5 g1 g2 g3 hf hk
                      go_wp2_with fail
                      go_quiet (fail)
                      go_wp2_with fail
                      exact ⟨⟨xs, ys ++ [(k : Int) + 1], a', f', rfl, rfl, by omega, by omega, hx1, by simp; omega, T5.out.below (ndrewN (Below.refl _ _) _), ndrewN B5.out _⟩, by simp [intOf]; omega⟩
              · have hqz : ¬ (qs.length : Int) < 12 := by omega
                go_wp2_with fail
                go_ret
                exact ⟨⟨_, qs, rfl, hq, lpown_low hS.out.own (Nat.le_succ _), hS.out.all⟩, hS.out.old⟩
            · obtain rfl : i = m.pn := by omega
              go_wp2_with fail
              go_ret
              exact ⟨⟨_, qs, rfl, hq, lpown_low hS.out.own (Nat.le_succ _), hS.out.all⟩, hS.out.old⟩
end Go.Proofs.YtfgmalnkpgloiaaGreatDoor
