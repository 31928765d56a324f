/-
  What stands in the model's RiverRun from step to step.
-/
import Derived.Test.YtdpghhmcibiplaaDoorRvS5
import Derived.Test.YtdpghhmcibiplaaDoorRvDr2
import Derived.Deep.DeepCutAuto
import Derived.Deep.RegionHeld3
namespace Go.Proofs.YtdpghhmcibiplaaDoor
open Go.RowKit Go.Deep

theorem step_append_rv {P : Program} {ops : Array Oper} {o : Oper} {a : Act} {w : World} {K : Act → World → Prop} {Q : Exit → Act → World → Prop} {E : Prop}
    (hg : o.guard = none) (s x : Operand) (t : TypeId) (hop : o.op = Op.call { callee := Callee.builtin Builtin.append, args := #[s, x], argTypes := #[t, t] }) (B : Nat)
    (e : TypeId) (i : TypeInfo) (z : Value) (size bytes : Nat) (h1 : P.underlying t = some (.slice e)) (h2 : P.info? e = some i) (h3 : i.zero = some z) (h4 : i.size = size) (h5 : i.bytes = bytes) (h6 : z.cells.size = size) (h7 : 0 < size)
    (v : Value) (n : Nat) (olds : List Value) (hs : a.eval s = v) (hown : w.ownsRow B e size v n olds)
    (ad : Addr) (m c : Nat) (news : List Value) (hx : a.eval x = .slice (some ad) m c) (hn : news.length = m * size) (hc : ∀ j u, news[j]? = some u → w.cell? (ad.add j) = some u) (h1c : ∀ u ∈ news, u.oneCell' = true)
    (b1 : n + m ≤ maxLen) (b2 : (n + m) * bytes ≤ 140737488355328) (hB : B ≤ w.heap.size)
    (hK : ∀ v' w', w'.ownsRow B e size v' (n + m) (olds ++ news) → w.grownBy w' v.ownBlock → K (a.put o.dst v') w') :
    if Region.wanted o (yielded ops a.tmps) = true then Oper.wp P o a w K Q else E := by
  have hw : Region.wanted o (yielded ops a.tmps) = true := by simp [Region.wanted, hg]
  rw [if_pos hw]
  obtain ⟨v', w', hrun, r1, r2, _⟩ := run_append_own (P := P) w B t o.type e i z size bytes h1 h2 h3 h4 h5 h6 h7 v n olds hown ad m c news hn hc h1c b1 b2 hB
  unfold Oper.wp
  simp [execOp, hop, resolve, invoke, builtin, hs, hx, hrun, Result.andThen]
  exact hK v' w' r1 r2
theorem rrow_below {w w' : World} {g : Nat} {t : TypeId} {m : Nat} {F : Nat → Value} (h : w.rowIs g t m F) (hb : Below w.heap.size w w') : w'.rowIs g t m F := h.of_block (hb.block _ h.lt)
theorem rbel (w : World) (o : Obj) : Below w.heap.size w (w.alloc o) := (Below.refl _ _).alloc (Nat.le_refl _) o
theorem rown_below {B : Nat} {e : TypeId} {s : Nat} {v : Value} {n : Nat} {xs : List Value} {W W' : World} (h : W.ownsRow B e s v n xs) (hb : Below W.heap.size W W') : W'.ownsRow B e s v n xs := by
  obtain ⟨h1, h2⟩ := h
  refine ⟨h1, ?_⟩
  rcases h2 with h2 | ⟨g, cap, cur, e1, e2, e3, e4⟩
  · exact Or.inl h2
  · refine Or.inr ⟨g, cap, cur, e1, e2, ?_, e4⟩
    have hlt : g < W.heap.size := by
      rcases Nat.lt_or_ge g W.heap.size with h | h
      · exact h
      · rw [Array.getElem?_eq_none h] at e3; cases e3
    rw [hb.block g hlt]; exact e3
/-- Blocks of unlike types are unlike. -/
theorem rrow_ne {w : World} {g h : Nat} {t s : TypeId} {m k : Nat} {F G : Nat → Value} (h1 : w.rowIs g t m F) (h2 : w.rowIs h s k G) (hne : t ≠ s) : g ≠ h := by
  rintro rfl
  obtain ⟨c, e1, _⟩ := h1
  obtain ⟨c', e2, _⟩ := h2
  rw [e1] at e2
  cases e2
  exact hne rfl
theorem rown_ne {B : Nat} {e : TypeId} {s : Nat} {v : Value} {n : Nat} {xs : List Value} {w : World} {h : Nat} {t : TypeId} {k : Nat} {G : Nat → Value} (h1 : w.ownsRow B e s v n xs) (h2 : w.rowIs h t k G) (hne : e ≠ t) : some h ≠ v.ownBlock := by
  intro hh
  obtain ⟨_, h3⟩ := h1
  rcases h3 with ⟨rfl, _⟩ | ⟨g, cap, cur, rfl, e2, e3, e4⟩
  · cases hh
  · have hgh : h = g := Option.some.inj hh
    subst hgh
    obtain ⟨c', e5, _⟩ := h2
    rw [e3] at e5
    cases e5
    exact hne rfl
theorem InBlk.row {g n : Nat} {f : Nat → Int} {w : World} (h : InBlk g n f w) : ∃ m F, w.rowIs g 2 m F := by obtain ⟨m, F, _, h, _⟩ := h; exact ⟨m, F, h⟩
theorem RcBlk.row {g n : Nat} {f : Nat → Rv.Rc} {w : World} (h : RcBlk g n f w) : ∃ m F, w.rowIs g 43 m F := by obtain ⟨m, F, _, h, _⟩ := h; exact ⟨_, F, h⟩
theorem rown_nei {B s n m : Nat} {v : Value} {xs : List Value} {w : World} {h : Nat} {f : Nat → Int} (h1 : w.ownsRow B 43 s v n xs) (h2 : InBlk h m f w) : some h ≠ v.ownBlock := by
  obtain ⟨m9, F9, hr9⟩ := h2.row
  exact rown_ne h1 hr9 (by decide)
/-- A list of numbers that lies there. -/
def InX (g n : Nat) (w : World) : Prop := ∃ f, InBlk g n f w
theorem InX.block {g n : Nat} {w w' : World} (h : InX g n w) (e : w'.heap[g]? = w.heap[g]?) : InX g n w' := by obtain ⟨f, h⟩ := h; exact ⟨f, h.block e⟩
theorem InX.below {g n : Nat} {w w' : World} (h : InX g n w) (hb : Below w.heap.size w w') : InX g n w' := by obtain ⟨f, h⟩ := h; exact ⟨f, h.block (hb.block _ h.lt)⟩
theorem InX.put {g n : Nat} {w : World} (h : InX g n w) (p i : Nat) (x : Int) : InX g n (w.setCell ⟨p, i, none⟩ (.int .i64 x)) := by
  obtain ⟨f, h⟩ := h
  by_cases e : g = p
  · subst e; exact ⟨_, h.set i x⟩
  · exact ⟨f, h.block (blk_setCell_other _ _ _ _ (by show g ≠ p; exact e))⟩
theorem InX.at_ {g n : Nat} {w : World} (h : InX g n w) {i : Nat} (hi : i < n) : ∃ x : Int, w.cell? ⟨g, i, none⟩ = some (.int .i64 x) ∧ w.frozen? ⟨g, i, none⟩ = false ∧ g < w.heap.size := by
  obtain ⟨f, h⟩ := h
  exact ⟨f i, h.cell hi, h.frozen i, h.lt⟩
theorem rc_news {lb n : Nat} {rs : Nat → Rv.Rc} {w : World} (h : ∀ i, i < n → RcCells lb (i * 5) (rs i) w) (j : Nat) (u : Value) (hj : ((listOf rs n).flatMap rcCells)[j]? = some u) : w.cell? ((⟨lb, 0, none⟩ : Addr).add j) = some u := by
  have hl : j < n * 5 := by
    have h1 := (List.getElem?_eq_some_iff.1 hj).1
    rw [rcCells_len, listOf_len] at h1; exact h1
  rw [rcCells_get _ _ (by rw [listOf_len]; exact hl)] at hj
  have hi : j / 5 < n := by omega
  rw [← Option.some.inj hj, Addr.add_lit, Nat.zero_add]
  unfold rcRow
  rw [rcList_of rs hi]
  obtain ⟨c0, c1, c2, c3, c4⟩ := h _ hi
  have e : j = j / 5 * 5 + j % 5 := by omega
  have h5 : j % 5 = 0 ∨ j % 5 = 1 ∨ j % 5 = 2 ∨ j % 5 = 3 ∨ j % 5 = 4 := by omega
  generalize j / 5 = a at *
  rcases h5 with k | k | k | k | k <;> rw [k] at e ⊢ <;> subst e
  · exact c0
  · exact c1
  · exact c2
  · exact c3
  · exact c4
theorem rc_one {n : Nat} {rs : Nat → Rv.Rc} (u : Value) (h : u ∈ (listOf rs n).flatMap rcCells) : u.oneCell' = true := by
  obtain ⟨r, _, hr⟩ := List.mem_flatMap.1 h
  unfold rcCells at hr
  simp at hr
  rcases hr with rfl | rfl | rfl | rfl | rfl <;> rfl
theorem own_rc {B n : Nat} {v : Value} {rs : Nat → Rv.Rc} {w : World} (h : w.ownsRow B 43 5 v n ((listOf rs n).flatMap rcCells)) (hn : 1 ≤ n) : ∃ g cap, v = .slice (some ⟨g, 0, none⟩) n cap ∧ B ≤ g ∧ RcBlk g n rs w := by
  have h' : w.ownsRow B 43 5 v (listOf rs n).length ((listOf rs n).flatMap rcCells) := by rw [listOf_len]; exact h
  rcases own_rcs h' with ⟨_, h2⟩ | ⟨g, cap, e, hB, hk⟩
  · have := congrArg List.length h2
    rw [listOf_len] at this
    simp at this
    omega
  · rw [listOf_len] at e hk
    exact ⟨g, cap, e, hB, hk.congr (fun j hj => rcList_of rs hj)⟩
/-- What stands in the model's run from step to step. -/
structure RM (w : World) (n po gl c gf gt : Nat) (rs : Nat → Rv.Rc) (sea : Int) (W : World) : Prop where
  slot : RoSlot w W
  row : W.rowIs po 27 5 (ro5 (.slice (some ⟨gl, 0, none⟩) n c) (.slice (some ⟨gf, 0, none⟩) n n) (.slice (some ⟨gt, 0, none⟩) n n) sea 0)
  ls : RcBlk gl n rs W
  fl : InX gf n W
  tk : InX gt n W
  far : w.heap.size < po ∧ w.heap.size < gf ∧ w.heap.size < gt
theorem RM.below {w : World} {n po gl c gf gt : Nat} {rs : Nat → Rv.Rc} {sea : Int} {W W' : World} (h : RM w n po gl c gf gt rs sea W) (hb : Below W.heap.size W W') : RM w n po gl c gf gt rs sea W' :=
  ⟨h.slot.next hb, rrow_below h.row hb, h.ls.block (hb.block _ h.ls.lt), h.fl.below hb, h.tk.below hb, h.far⟩
theorem RM.put {w : World} {n po gl c gf gt : Nat} {rs : Nat → Rv.Rc} {sea : Int} {W : World} (h : RM w n po gl c gf gt rs sea W) {p : Nat} (hp : InX p n W) (hlt : w.heap.size < p) (i : Nat) (x : Int) : RM w n po gl c gf gt rs sea (W.setCell ⟨p, i, none⟩ (.int .i64 x)) := by
  obtain ⟨f, hf⟩ := hp
  obtain ⟨m, F, hr⟩ := hf.row
  obtain ⟨m2, F2, hl⟩ := h.ls.row
  exact ⟨h.slot.set hlt i _, h.row.of_block (blk_setCell_other _ _ _ _ (by show po ≠ p; exact rrow_ne h.row hr (by decide))), h.ls.block (blk_setCell_other _ _ _ _ (by show gl ≠ p; exact rrow_ne hl hr (by decide))), h.fl.put p i x, h.tk.put p i x, h.far⟩
/-- What stands behind the call of a step. -/
structure RX (w : World) (n po gl c gf gt : Nat) (rs : Nat → Rv.Rc) (sea : Int) (ps xl xc xf cf xt ct : Nat) (rs2 : Nat → Rv.Rc) (s2 : Int) (W : World) : Prop where
  rm : RM w n po gl c gf gt rs sea W
  box : W.rowIs ps 27 5 (ro5 (.slice (some ⟨xl, 0, none⟩) n xc) (.slice (some ⟨xf, 0, none⟩) n cf) (.slice (some ⟨xt, 0, none⟩) n ct) s2 0)
  ls2 : RcBlk xl n rs2 W
  fl2 : InX xf n W
  tk2 : InX xt n W
  ne : po ≠ ps
theorem RX.put {w : World} {n po gl c gf gt : Nat} {rs : Nat → Rv.Rc} {sea : Int} {ps xl xc xf cf xt ct : Nat} {rs2 : Nat → Rv.Rc} {s2 : Int} {W : World} (h : RX w n po gl c gf gt rs sea ps xl xc xf cf xt ct rs2 s2 W) {p : Nat} (hp : InX p n W) (hlt : w.heap.size < p) (i : Nat) (x : Int) : RX w n po gl c gf gt rs sea ps xl xc xf cf xt ct rs2 s2 (W.setCell ⟨p, i, none⟩ (.int .i64 x)) := by
  have hp2 := hp
  obtain ⟨f, hf⟩ := hp
  obtain ⟨m, F, hr⟩ := hf.row
  obtain ⟨m2, F2, hl⟩ := h.ls2.row
  exact ⟨h.rm.put hp2 hlt i x, h.box.of_block (blk_setCell_other _ _ _ _ (by show ps ≠ p; exact rrow_ne h.box hr (by decide))), h.ls2.block (blk_setCell_other _ _ _ _ (by show xl ≠ p; exact rrow_ne hl hr (by decide))), h.fl2.put p i x, h.tk2.put p i x, h.ne⟩
theorem RX.drew {w : World} {n po gl c gf gt : Nat} {rs : Nat → Rv.Rc} {sea : Int} {ps xl xc xf cf xt ct : Nat} {rs2 : Nat → Rv.Rc} {s2 : Int} {W : World} (h : RX w n po gl c gf gt rs sea ps xl xc xf cf xt ct rs2 s2 W) : RX w n po gl c gf gt rs sea ps xl xc xf cf xt ct rs2 s2 W.drew :=
  ⟨h.rm.below (Below.refl _ _).drew, rrow_below h.box (Below.refl _ _).drew, h.ls2.block rfl, h.fl2.below (Below.refl _ _).drew, h.tk2.below (Below.refl _ _).drew, h.ne⟩
/-- The list and the sea of a step are taken over. -/
theorem RX.take {w : World} {n po gl c gf gt : Nat} {rs : Nat → Rv.Rc} {sea : Int} {ps xl xc xf cf xt ct : Nat} {rs2 : Nat → Rv.Rc} {s2 : Int} {W : World} (h : RX w n po gl c gf gt rs sea ps xl xc xf cf xt ct rs2 s2 W) (x : Int) :
    RX w n po xl xc gf gt rs2 x ps xl xc xf cf xt ct rs2 s2 ((W.setCell ⟨po, 0, none⟩ (.slice (some ⟨xl, 0, none⟩) n xc)).setCell ⟨po, 3, none⟩ (.int .i64 x)) := by
  have hb : ∀ k, k ≠ po → ((W.setCell ⟨po, 0, none⟩ (.slice (some ⟨xl, 0, none⟩) n xc)).setCell ⟨po, 3, none⟩ (.int .i64 x)).heap[k]? = W.heap[k]? := fun k hk => by
    rw [blk_setCell_other _ _ _ _ (by show k ≠ po; exact hk), blk_setCell_other _ _ _ _ (by show k ≠ po; exact hk)]
  have hx : ∀ {g}, InX g n W → g ≠ po := fun {g} hg => by
    obtain ⟨f, hf⟩ := hg
    obtain ⟨m, F, hr⟩ := hf.row
    exact rrow_ne hr h.rm.row (by decide)
  obtain ⟨m2, F2, hl⟩ := h.ls2.row
  have hlp : xl ≠ po := rrow_ne hl h.rm.row (by decide)
  refine ⟨⟨(h.rm.slot.set h.rm.far.1 0 _).set h.rm.far.1 3 _, ?_, h.ls2.block (hb _ hlp), h.rm.fl.block (hb _ (hx h.rm.fl)), h.rm.tk.block (hb _ (hx h.rm.tk)), h.rm.far⟩, h.box.of_block (hb _ h.ne.symm), h.ls2.block (hb _ hlp), h.fl2.block (hb _ (hx h.fl2)), h.tk2.block (hb _ (hx h.tk2)), h.ne⟩
  refine ((h.rm.row.set 0 _).set 3 _).congr (fun i hi => ?_)
  have h5 : i = 0 ∨ i = 1 ∨ i = 2 ∨ i = 3 ∨ i = 4 := by omega
  rcases h5 with rfl | rfl | rfl | rfl | rfl <;> rfl
/-- What is made ahead of the first step. -/
theorem rm_made {w V0 V WF : World} {n po gl cA gf gt : Nat} {rs : Nat → Rv.Rc} (e : WF = putRo po V (.slice (some ⟨gl, 0, none⟩) n cA) (.slice (some ⟨gf, 0, none⟩) n n) (.slice (some ⟨gt, 0, none⟩) n n) (.int .i64 0) (.int .i64 0)) (hs : RoSlot w V0) (hb : Below V0.heap.size V0 V)
    (hv : V.rowIs po 27 5 (ro5 (.slice none 0 0) (.slice none 0 0) (.slice none 0 0) 0 0)) (hl : RcBlk gl n rs V) (hf : InBlk gf n (fun _ => 0) V) (ht : InBlk gt n (fun _ => 0) V) (h1 : V0.heap.size ≤ po) (h2 : V0.heap.size ≤ gf) (h3 : V0.heap.size ≤ gt) : RM w n po gl cA gf gt rs 0 WF := by
  subst e
  have hz := hs.lt
  obtain ⟨m1, F1, r1⟩ := hl.row
  obtain ⟨m2, F2, r2⟩ := hf.row
  obtain ⟨m3, F3, r3⟩ := ht.row
  refine ⟨((((((hs.next hb).set (by omega) 0 _).set (by omega) 1 _).set (by omega) 2 _).set (by omega) 3 _).set (by omega) 4 _), ?_, hl.block (putRo_block _ _ _ _ _ _ _ _ (rrow_ne r1 hv (by decide))), ⟨_, hf.block (putRo_block _ _ _ _ _ _ _ _ (rrow_ne r2 hv (by decide)))⟩, ⟨_, ht.block (putRo_block _ _ _ _ _ _ _ _ (rrow_ne r3 hv (by decide)))⟩, by omega, by omega, by omega⟩
  refine (((((hv.set 0 _).set 1 _).set 2 _).set 3 _).set 4 _).congr (fun i hi => ?_)
  have h5 : i = 0 ∨ i = 1 ∨ i = 2 ∨ i = 3 ∨ i = 4 := by omega
  rcases h5 with rfl | rfl | rfl | rfl | rfl <;> rfl

theorem rm_leaf {w V0 V : World} {n po gl cA gf gt : Nat} {rs : Nat → Rv.Rc} (hs : RoSlot w V0) (hb : Below V0.heap.size V0 V)
    (hv : V.rowIs po 27 5 (ro5 (.slice none 0 0) (.slice none 0 0) (.slice none 0 0) 0 0)) (hl : RcBlk gl n rs V) (hf : InBlk gf n (fun _ => 0) V) (ht : InBlk gt n (fun _ => 0) V) (h1 : V0.heap.size ≤ po) (h2 : V0.heap.size ≤ gf) (h3 : V0.heap.size ≤ gt) :
    ∃ WF, Hid (WF = ((((V.setCell ⟨po, 0, none⟩ (.slice (some ⟨gl, 0, none⟩) n cA)).setCell ⟨po, 1, none⟩ (.slice (some ⟨gf, 0, none⟩) n n)).setCell ⟨po, 2, none⟩ (.slice (some ⟨gt, 0, none⟩) n n)).setCell ⟨po, 3, none⟩ (.int .i64 0)).setCell ⟨po, 4, none⟩ (.int .i64 0)) ∧ Hid (RM w n po gl cA gf gt rs 0 WF) ∧ Hid (Below V0.heap.size V0 WF) ∧
      (V.cell? ⟨po, 0, none⟩ = some (.slice none 0 0) ∧ V.cell? ⟨po, 1, none⟩ = some (.slice none 0 0) ∧ V.cell? ⟨po, 2, none⟩ = some (.slice none 0 0) ∧ V.cell? ⟨po, 3, none⟩ = some (.int .i64 0) ∧ V.cell? ⟨po, 4, none⟩ = some (.int .i64 0)) ∧
      (V.frozen? ⟨po, 0, none⟩ = false ∧ V.frozen? ⟨po, 1, none⟩ = false ∧ V.frozen? ⟨po, 2, none⟩ = false ∧ V.frozen? ⟨po, 3, none⟩ = false ∧ V.frozen? ⟨po, 4, none⟩ = false) ∧ po < V.heap.size :=
  ⟨_, rfl, rm_made rfl hs hb hv hl hf ht h1 h2 h3, ((((hb.setCell (p := ⟨po, 0, none⟩) h1 _).setCell (p := ⟨po, 1, none⟩) h1 _).setCell (p := ⟨po, 2, none⟩) h1 _).setCell (p := ⟨po, 3, none⟩) h1 _).setCell (p := ⟨po, 4, none⟩) h1 _,
    ⟨hv.cell (i := 0) (by omega), hv.cell (i := 1) (by omega), hv.cell (i := 2) (by omega), hv.cell (i := 3) (by omega), hv.cell (i := 4) (by omega)⟩, ⟨hv.frozen 0, hv.frozen 1, hv.frozen 2, hv.frozen 3, hv.frozen 4⟩, hv.lt⟩

/-- An answer of a river, and what holds of its code. -/
def RoE (P : Int → Prop) (e : Ending) : Prop := ∃ a1 n1 c1 a2 n2 c2 a3 n3 c3 sea code, e = .returned (.agg #[.slice a1 n1 c1, .slice a2 n2 c2, .slice a3 n3 c3, .int .i64 sea, .int .i64 code]) ∧ P code
/-- What stands behind the call of a step, whether it goes well or not. -/
def StS (w : World) (n po gl c gf gt : Nat) (t : Rv.RSt) (sea : Int) (len : Nat) (f : Nat → Int) (ps : Nat) (W : World) : Prop :=
  (∃ code : Int, code ≠ 0 ∧ RM w n po gl c gf gt t.rs sea W ∧ W.rowIs ps 27 5 (ro5 (.slice none 0 0) (.slice none 0 0) (.slice none 0 0) 0 code)) ∨
  ∃ st xl xc xf cf xt ct, Rv.stepF n len t.rs f = .ok st ∧ RX w n po gl c gf gt t.rs sea ps xl xc xf cf xt ct (Rv.after t.rs st) st.sea W
theorem ro_put {W : World} {ps : Nat} {a b c a' b' c' : Value} {d e d' e' : Int} (h : W.rowIs ps 27 5 (ro5 a b c d e)) : (((((W.setCell ⟨ps, 0, none⟩ a').setCell ⟨ps, 1, none⟩ b').setCell ⟨ps, 2, none⟩ c').setCell ⟨ps, 3, none⟩ (.int .i64 d')).setCell ⟨ps, 4, none⟩ (.int .i64 e')).rowIs ps 27 5 (ro5 a' b' c' d' e') := by
  refine (((((h.set 0 _).set 1 _).set 2 _).set 3 _).set 4 _).congr (fun i hi => ?_)
  have h5 : i = 0 ∨ i = 1 ∨ i = 2 ∨ i = 3 ∨ i = 4 := by omega
  rcases h5 with rfl | rfl | rfl | rfl | rfl <;> rfl
theorem RM.same {w : World} {n po gl c gf gt : Nat} {rs : Nat → Rv.Rc} {sea : Int} {W W' : World} (h : RM w n po gl c gf gt rs sea W) {ps : Nat} (hs : RoSlot w W') (hne : po ≠ ps) (hr : W.rowIs ps 27 5 (ro5 (.slice none 0 0) (.slice none 0 0) (.slice none 0 0) 0 0)) (hb : ∀ k, k ≠ ps → W'.heap[k]? = W.heap[k]?) : RM w n po gl c gf gt rs sea W' := by
  obtain ⟨m2, F2, hl⟩ := h.ls.row
  have hx : ∀ {g}, InX g n W → g ≠ ps := fun {g} hg => by
    obtain ⟨f, hf⟩ := hg
    obtain ⟨m, F, h2⟩ := hf.row
    exact rrow_ne h2 hr (by decide)
  exact ⟨hs, h.row.of_block (hb _ hne), h.ls.block (hb _ (rrow_ne hl hr (by decide))), h.fl.block (hb _ (hx h.fl)), h.tk.block (hb _ (hx h.tk)), h.far⟩
theorem runs_step {n : Nat} {rs : Nat → Rv.Rc} {q : Nat → Rv.Rain} {k : Nat} {t : Rv.RSt} {st : Rv.St} (h : Rv.runs n rs q k = some t) (hs : Rv.stepF n (q k).len t.rs (q k).at_ = .ok st) : Rv.runs n rs q (k + 1) = some ⟨Rv.after t.rs st, fun j => t.fl j + st.fl j, fun j => t.tk j + st.tk j, t.sea + st.sea⟩ :=
  Rv.runs_next h (Rv.stepF_inv hs).1.2 (Rv.stepF_inv hs).2
theorem inx_ne {g n ps : Nat} {W : World} {F : Nat → Value} {k : Nat} (h : InX g n W) (hr : W.rowIs ps 27 k F) : g ≠ ps := by
  obtain ⟨f, hf⟩ := h
  obtain ⟨m, F2, h2⟩ := hf.row
  exact rrow_ne h2 hr (by decide)
end Go.Proofs.YtdpghhmcibiplaaDoor
