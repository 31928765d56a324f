/-
  What the law FnYield holds its two runs against; the law's lists in memory.
-/
import Derived.Test.YtdpghhmcibiplaaDoorStD5
import Derived.Test.YtdpghhmcibiplaaDoorStLw
import Derived.Test.YtdpghhmcibiplaaDoorStY2
import Derived.Test.YtdpghhmcibiplaaDoorStR2
import Derived.Maps.AppendAt
import Derived.BigRegion
namespace Go.Proofs.YtdpghhmcibiplaaDoor
open Go.RowKit Go.Deep

theorem yrow_below {w w' : World} {g : Nat} {t : TypeId} {m : Nat} {F : Nat → Value} (h : w.rowIs g t m F) (hb : Below w.heap.size w w') : w'.rowIs g t m F := h.of_block (hb.block _ h.lt)
theorem ybel_alloc (w : World) (o : Obj) : Below w.heap.size w (w.alloc o) := (Below.refl _ _).alloc (Nat.le_refl _) o
theorem row_ap {W : World} {g1 g2 n1 n2 : Nat} {t1 t2 : TypeId} {d1 d2 : Nat → Value} (h1 : W.rowIs g1 t1 n1 d1) (h2 : W.rowIs g2 t2 n2 d2) (ht : t1 ≠ t2) : g1 ≠ g2 := by
  intro e
  subst e
  obtain ⟨c1, b1, _⟩ := h1
  obtain ⟨c2, b2, _⟩ := h2
  rw [b1] at b2
  injection b2 with b2
  injection b2 with _ b3
  exact ht b3
theorem pr_ap {W : World} {ty t : TypeId} {q n g m : Nat} {ps : Nat → St.Pr} {d : Nat → Value} (h : PrBlk ty q n ps W) (hr : W.rowIs g t m d) (ht : ty ≠ t) : q ≠ g := by
  obtain ⟨_, _, _, h, _⟩ := h
  exact row_ap h hr ht
theorem FlS.ints {B n : Nat} {v : Value} {f : Nat → Int} {W : World} (h : FlS B v n f W) : ∃ a c, v = .slice a n c ∧ IntsAt a n f W := by
  obtain ⟨a, c, e, h⟩ := h
  rcases h with ⟨h, _⟩ | ⟨g, e1, hg, h⟩
  · exact ⟨a, c, e, Or.inl h⟩
  · subst e1; exact ⟨_, c, e, h.at_⟩
theorem lwCopyF_any {B n : Nat} {v : Value} {f : Nat → Int} {w : World} (h : FlS B v n f w) (hn : n ≤ 1000) :
    Calls Tryd.prog 28 #[v] w fun e w' => (∃ a c, e = .returned (.slice a n c) ∧ IntsAt a n f w') ∧ Below w.heap.size w w' := by
  obtain ⟨a, c, rfl, h⟩ := h
  rcases h with ⟨rfl, rfl, rfl⟩ | ⟨g, rfl, hg, h⟩
  · refine (lwCopyNil_any w).mono ?_
    rintro e W ⟨⟨a, c, rfl⟩, hb⟩
    exact ⟨⟨a, c, rfl, Or.inl rfl⟩, hb⟩
  · exact lwCopyS_any g n c f w h hn
/-- What stands in the law. -/
structure YkS (w : World) (bS : Nat) (ca : Option Addr) (cn ck : Nat) (ra : Option Addr) (rn rk : Nat) (v : Int) (c r : Nat → St.Pr) (vi : Value) (n : Nat) (f : Nat → Int) (W : World) : Prop where
  row : W.rowIs bS 66 3 (d3 (.slice ca cn ck) (.slice ra rn rk) (.int .i64 v))
  st : StAt ca cn c ra rn r W
  fi : FlS w.heap.size vi n f W
  bel : Below w.heap.size w W
  et : Et W ∧ TabOk W
theorem YkS.below {w : World} {bS : Nat} {ca : Option Addr} {cn ck : Nat} {ra : Option Addr} {rn rk : Nat} {v : Int} {c r : Nat → St.Pr} {vi : Value} {n : Nat} {f : Nat → Int} {W W' : World} (h : YkS w bS ca cn ck ra rn rk v c r vi n f W) (hb : Below W.heap.size W W') : YkS w bS ca cn ck ra rn rk v c r vi n f W' :=
  ⟨h.row.of_block (hb.block _ h.row.lt), h.st.below hb, h.fi.same (fun k _ hl => hb.block k hl), h.bel.trans (hb.mono h.bel.size), ⟨h.et.1.below hb, tab_below h.et.2 hb⟩⟩
/-- The first n of a list of numbers, as values. -/
def lsI (f : Nat → Int) (n : Nat) : List Value := (List.range n).map (fun i => Value.int .i64 (f i))
theorem lsI_succ (f : Nat → Int) (n : Nat) : lsI f (n + 1) = lsI f n ++ [.int .i64 (f n)] := by simp [lsI, List.range_succ]
theorem lsI_len (f : Nat → Int) (n : Nat) : (lsI f n).length = n := by simp [lsI]
theorem lsI_at {f : Nat → Int} {n i : Nat} (h : i < n) : (lsI f n)[i]? = some (.int .i64 (f i)) := by simp [lsI, h]
/-- A list of numbers that an answer owns. -/
abbrev OwnI (B : Nat) (v : Value) (n : Nat) (f : Nat → Int) (W : World) : Prop := W.ownsRow B 2 1 v n (lsI f n)
theorem ygrown_below {W W' : World} (hb : Below W.heap.size W W') (row : Option Nat) : W.grownBy W' row := ⟨hb.os, hb.tape, hb.output, hb.size, fun k hk _ => hb.block k hk⟩
theorem OwnI.below {B : Nat} {v : Value} {n : Nat} {f : Nat → Int} {W W' : World} (h : OwnI B v n f W) (hb : Below W.heap.size W W') : OwnI B v n f W' := by
  refine World.ownsRow.kept h (ygrown_below hb none) ?_
  cases hv : v.ownBlock with
  | none => exact Or.inl rfl
  | some k => exact Or.inr (by simp)
theorem OwnI.set {B : Nat} {v : Value} {n : Nat} {f : Nat → Int} {W : World} (h : OwnI B v n f W) {a : Addr} (ha : a.block < B) (u : Value) : OwnI B v n f (W.setCell a u) := ownsRow_setCell_below h ha u
theorem OwnI.ints {B : Nat} {v : Value} {n : Nat} {f : Nat → Int} {W : World} (h : OwnI B v n f W) : ∃ a k, v = .slice a n k ∧ IntsAt a n f W := by
  obtain ⟨h1, h2⟩ := h
  rcases h2 with ⟨e, e2⟩ | ⟨g, cap, cur, e1, e2, e3, e4, e5, e6, e7⟩
  · exact ⟨none, 0, by rw [e, e2], Or.inl e2⟩
  · refine ⟨_, cap, e1, Or.inr ⟨g, rfl, fun i hi => ?_⟩⟩
    have hx := lsI_at (f := f) hi
    rw [← e7, Nat.mul_one, List.getElem?_take_of_lt hi] at hx
    simp at hx
    simp [World.cell?, e3, hx]
/-- TwI lists of an answer. -/
structure TwI (B : Nat) (v1 : Value) (n1 : Nat) (f1 : Nat → Int) (v2 : Value) (n2 : Nat) (f2 : Nat → Int) (W : World) : Prop where
  one : OwnI B v1 n1 f1 W
  two : OwnI B v2 n2 f2 W
  ne : ∀ g, v1.ownBlock = some g → v2.ownBlock ≠ some g
theorem TwI.nil (B : Nat) (f1 f2 : Nat → Int) (W : World) : TwI B (.slice none 0 0) 0 f1 (.slice none 0 0) 0 f2 W := ⟨World.ownsRow_nil _ _ _ _, World.ownsRow_nil _ _ _ _, fun g h => by cases h⟩
section
variable {B : Nat} {v1 : Value} {n1 : Nat} {f1 : Nat → Int} {v2 : Value} {n2 : Nat} {f2 : Nat → Int} {W : World}
theorem TwI.below {W' : World} (h : TwI B v1 n1 f1 v2 n2 f2 W) (hb : Below W.heap.size W W') : TwI B v1 n1 f1 v2 n2 f2 W' := ⟨h.one.below hb, h.two.below hb, h.ne⟩
theorem TwI.set (h : TwI B v1 n1 f1 v2 n2 f2 W) {a : Addr} (ha : a.block < B) (u : Value) : TwI B v1 n1 f1 v2 n2 f2 (W.setCell a u) := ⟨h.one.set ha u, h.two.set ha u, h.ne⟩
theorem ykept_other {v v' : Value} {n : Nat} {f : Nat → Int} {W W' : World} {o : Obj} (h : OwnI B v n f W) (hg : (W.alloc o).grownBy W' v'.ownBlock) (hne : ∀ g, v'.ownBlock = some g → v.ownBlock ≠ some g) : OwnI B v n f W' := by
  refine World.ownsRow.kept (World.ownsRow.alloc h o) hg ?_
  cases hv : v'.ownBlock with
  | none => cases hv2 : v.ownBlock with
    | none => exact Or.inl rfl
    | some k => exact Or.inr (by simp)
  | some k => exact Or.inr (fun e => hne k hv e)
theorem TwI.push1 {W' : World} {v' : Value} {o : Obj} (h : TwI B v1 n1 f1 v2 n2 f2 W) (hown : W'.ownsRow B 2 1 v' (n1 + 1) (lsI f1 n1 ++ [.int .i64 (f1 n1)])) (hg : (W.alloc o).grownBy W' v1.ownBlock) (hat : v'.ownBlock = v1.ownBlock ∨ v'.ownBlock = some (W.alloc o).heap.size) : TwI B v' (n1 + 1) f1 v2 n2 f2 W' := by
  refine ⟨by unfold OwnI; rw [lsI_succ]; exact hown, ykept_other h.two hg h.ne, fun g hg1 hg2 => ?_⟩
  rcases hat with e | e
  · rw [e] at hg1; exact h.ne g hg1 hg2
  · rw [e] at hg1
    have h1 := (h.two.lt g hg2).2
    simp at hg1
    omega
theorem TwI.push2 {W' : World} {v' : Value} {o : Obj} (h : TwI B v1 n1 f1 v2 n2 f2 W) (hown : W'.ownsRow B 2 1 v' (n2 + 1) (lsI f2 n2 ++ [.int .i64 (f2 n2)])) (hg : (W.alloc o).grownBy W' v2.ownBlock) (hat : v'.ownBlock = v2.ownBlock ∨ v'.ownBlock = some (W.alloc o).heap.size) : TwI B v1 n1 f1 v' (n2 + 1) f2 W' := by
  refine ⟨ykept_other h.one hg (fun g h1 h2 => h.ne g h2 h1), by unfold OwnI; rw [lsI_succ]; exact hown, fun g hg1 hg2 => ?_⟩
  rcases hat with e | e
  · rw [e] at hg2; exact h.ne g hg1 hg2
  · rw [e] at hg2
    have h1 := (h.one.lt g hg1).2
    simp at hg2
    omega
end
/-- A store that gives all, by one rule, with what is asked for the same in every step. -/
structure YlZ (cn : Nat) (c : Nat → St.Pr) (v : Int) (n : Nat) (f : Nat → Int) (y : Int) : Prop where
  y0 : 0 ≤ y
  y1 : y ≤ 1000000
  nil : n = 0 → y = 1000000
  run : ∀ z, RunIs cn c 1 St.allR v n f n (fun _ => y) z → z.k = 0 ∧ z.d = 0
  more : y ≠ 1000000 → ∀ z, RunIs cn c 1 St.allR v n f n (fun _ => y + 1) z → z.k = 0 ∧ 0 < z.d
theorem ylz_of {n cn : Nat} {c : Nat → St.Pr} {rn : Nat} {r : Nat → St.Pr} {v : Int} {f : Nat → Int} {y : Int} (hy : YEnd n cn c rn r v f y) (hn : n ≤ 400) (hs : St.StoreOk cn c rn r v) (h0 : 0 ≤ y) : YlZ cn c v n f y := by
  have hb : ¬ 400 < n := by omega
  have hb2 : ¬ (400 < n ∨ 400 < n) := by omega
  have hf : St.FlowsOk n f := by
    apply Classical.byContradiction
    intro hf
    have := hy.2.1 hb (fun h => hf h.2)
    omega
  obtain ⟨⟨_, y1⟩, hm, hmore⟩ := hy.2.2 hb ⟨hs, hf⟩
  have hs1 : St.StoreOk cn c 1 St.allR v := ⟨hs.1, St.allR_ok, hs.2.2⟩
  have hfu := St.full_bounds hs.1
  refine ⟨h0, y1, ?_, ?_, ?_⟩
  · intro e
    rcases hmore with h | h
    · exact h
    · exact absurd (fun i hi => by omega) h
  · intro z hz
    have e := hz.2.2 hb2 ⟨hs1, rfl, hf, fun _ _ => ⟨h0, y1⟩⟩
    rw [e]
    exact ⟨rfl, (St.run_meets hm n (Nat.le_refl _)).2⟩
  · intro hne z hz
    have hk : St.FlowOk (y + 1) := ⟨by omega, by omega⟩
    have e := hz.2.2 hb2 ⟨hs1, rfl, hf, fun _ _ => hk⟩
    rw [e]
    rcases hmore with h | h
    · exact absurd h hne
    · exact ⟨rfl, St.run_short (by omega) hs.2.2.1 hs.2.2.2 hk hf h⟩
end Go.Proofs.YtdpghhmcibiplaaDoor
