/-
  What stands in the model's SewerRun from step to step; where it refuses ahead of all steps.
-/
import Derived.Test.YtokbhkcpkilcmaaDoorSwS4
import Derived.Test.YtokbhkcpkilcmaaDoorSwR3
import Derived.Deep.DeepCutAuto
import Derived.Deep.RegionHeld3
namespace Go.Proofs.YtokbhkcpkilcmaaDoor
open Go.RowKit Go.Deep

theorem step_append_rv {P : Program} {ops : Array Oper} {o : Oper} {a : Act} {w : World} {K : Act → World → Prop} {Q : Exit → Act → World → Prop} {E : Prop}
    (hg : o.guard = none) (s x : Operand) (t : TypeId) (hop : o.op = Op.call { callee := Callee.builtin Builtin.append, args := #[s, x], argTypes := #[t, t] }) (B : Nat)
    (e : TypeId) (i : TypeInfo) (z : Value) (size bytes : Nat) (h1 : P.underlying t = some (.slice e)) (h2 : P.info? e = some i) (h3 : i.zero = some z) (h4 : i.size = size) (h5 : i.bytes = bytes) (h6 : z.cells.size = size) (h7 : 0 < size)
    (v : Value) (n : Nat) (olds : List Value) (hs : a.eval s = v) (hown : w.ownsRow B e size v n olds)
    (ad : Addr) (m c : Nat) (news : List Value) (hx : a.eval x = .slice (some ad) m c) (hn : news.length = m * size) (hc : ∀ j u, news[j]? = some u → w.cell? (ad.add j) = some u) (h1c : ∀ u ∈ news, u.oneCell' = true)
    (b1 : n + m ≤ maxLen) (b2 : (n + m) * bytes ≤ 140737488355328) (hB : B ≤ w.heap.size)
    (hK : ∀ v' w', w'.ownsRow B e size v' (n + m) (olds ++ news) → w.grownBy w' v.ownBlock → K (a.put o.dst v') w') :
    if Region.wanted o (yielded ops a.tmps) = true then Oper.wp P o a w K Q else E := by
  have hw : Region.wanted o (yielded ops a.tmps) = true := by simp [Region.wanted, hg]
  rw [if_pos hw]
  obtain ⟨v', w', hrun, r1, r2, _⟩ := run_append_own (P := P) w B t o.type e i z size bytes h1 h2 h3 h4 h5 h6 h7 v n olds hown ad m c news hn hc h1c b1 b2 hB
  unfold Oper.wp
  simp [execOp, hop, resolve, invoke, builtin, hs, hx, hrun, Result.andThen]
  exact hK v' w' r1 r2
theorem rrow_below {w w' : World} {g : Nat} {t : TypeId} {m : Nat} {F : Nat → Value} (h : w.rowIs g t m F) (hb : Below w.heap.size w w') : w'.rowIs g t m F := h.of_block (hb.block _ h.lt)
theorem rbel (w : World) (o : Obj) : Below w.heap.size w (w.alloc o) := (Below.refl _ _).alloc (Nat.le_refl _) o
theorem rown_below {B : Nat} {e : TypeId} {s : Nat} {v : Value} {n : Nat} {xs : List Value} {W W' : World} (h : W.ownsRow B e s v n xs) (hb : Below W.heap.size W W') : W'.ownsRow B e s v n xs := own_far h (fun k _ hk => hb.block k hk)
/-- Blocks of unlike types are unlike. -/
theorem rrow_ne {w : World} {g h : Nat} {t s : TypeId} {m k : Nat} {F G : Nat → Value} (h1 : w.rowIs g t m F) (h2 : w.rowIs h s k G) (hne : t ≠ s) : g ≠ h := by
  rintro rfl
  obtain ⟨c, e1, _⟩ := h1
  obtain ⟨c', e2, _⟩ := h2
  rw [e1] at e2
  cases e2
  exact hne rfl
theorem rown_ne {B : Nat} {e : TypeId} {s : Nat} {v : Value} {n : Nat} {xs : List Value} {w : World} {h : Nat} {t : TypeId} {k : Nat} {G : Nat → Value} (h1 : w.ownsRow B e s v n xs) (h2 : w.rowIs h t k G) (hne : e ≠ t) : some h ≠ v.ownBlock := by
  intro hh
  obtain ⟨_, h3⟩ := h1
  rcases h3 with ⟨rfl, _⟩ | ⟨g, cap, cur, rfl, e2, e3, e4⟩
  · cases hh
  · have hgh : h = g := Option.some.inj hh
    subst hgh
    obtain ⟨c', e5, _⟩ := h2
    rw [e3] at e5
    cases e5
    exact hne rfl
theorem isblk_row {T : TypeId} {g n : Nat} {f : Nat → Int} {w : World} (h : IsBlk T g n f w) : ∃ m F, w.rowIs g T m F := by obtain ⟨m, F, _, h, _⟩ := h; exact ⟨m, F, h⟩
theorem isblk_ne {T t : TypeId} {g n p m : Nat} {f : Nat → Int} {G : Nat → Value} {w : World} (h : IsBlk T g n f w) (hp : w.rowIs p t m G) (hne : T ≠ t) : g ≠ p := by
  obtain ⟨m1, F1, r1⟩ := isblk_row h
  exact rrow_ne r1 hp hne
theorem isblk_ne2 {T t : TypeId} {g n p m : Nat} {f k : Nat → Int} {w : World} (h : IsBlk T g n f w) (hp : IsBlk t p m k w) (hne : T ≠ t) : g ≠ p := by
  obtain ⟨m1, F1, r1⟩ := isblk_row hp
  exact isblk_ne h r1 hne
theorem rown_nei {B s n m : Nat} {v : Value} {xs : List Value} {w : World} {h : Nat} {f : Nat → Int} (h1 : w.ownsRow B 55 s v n xs) (h2 : InBlk h m f w) : some h ≠ v.ownBlock := by
  obtain ⟨m9, F9, hr9⟩ := isblk_row h2
  exact rown_ne h1 hr9 (by decide)
theorem rc_news {lb n : Nat} {rs : Nat → Sw.Rc} {w : World} (h : ∀ i, i < n → RcCells lb (i * 6) (rs i) w) (j : Nat) (u : Value) (hj : (inVs (scF rs) (n * 6))[j]? = some u) : w.cell? ((⟨lb, 0, none⟩ : Addr).add j) = some u := by
  have hl : j < n * 6 := by
    have h1 := (List.getElem?_eq_some_iff.1 hj).1
    rw [inVs_len] at h1; exact h1
  rw [inVs_get _ hl] at hj
  rw [← Option.some.inj hj, Addr.add_lit, Nat.zero_add]
  exact rccells_to h j hl
theorem rc_one {n : Nat} {f : Nat → Int} (u : Value) (h : u ∈ inVs f n) : u.oneCell' = true := by
  obtain ⟨x, _, rfl⟩ := List.mem_map.1 h
  rfl
theorem own_rc {B n : Nat} {v : Value} {rs : Nat → Sw.Rc} {w : World} (h : w.ownsRow B 55 6 v n (inVs (scF rs) (n * 6))) (hn : 1 ≤ n) : ∃ g cap, v = .slice (some ⟨g, 0, none⟩) n cap ∧ B ≤ g ∧ RcBlk g n rs w := by
  rcases own_flat h with ⟨_, h2⟩ | ⟨g, cap, e, hB, hk⟩
  · omega
  · exact ⟨g, cap, e, hB, hk⟩
theorem rr_made {w V0 V WF : World} {n po gl cA gf gt : Nat} {rs : Nat → Sw.Rc} (e : WF = putRo po V (.slice (some ⟨gl, 0, none⟩) n cA) (.slice (some ⟨gf, 0, none⟩) n n) (.slice (some ⟨gt, 0, none⟩) n n) (.int .i64 0) (.int .i64 0)) (hs : RoSlot w V0) (hb : Below V0.heap.size V0 V)
    (hv : V.rowIs po 27 5 (ro5 (.slice none 0 0) (.slice none 0 0) (.slice none 0 0) 0 0)) (hl : RcBlk gl n rs V) (hf : InBlk gf n (fun _ => 0) V) (ht : InBlk gt n (fun _ => 0) V) (h1 : V0.heap.size ≤ po) (h2 : V0.heap.size ≤ gf) (h3 : V0.heap.size ≤ gt) (h4 : V0.heap.size ≤ gl) (h5 : gf ≠ gt) : RR w n gl gf gt cA po ⟨rs, fun _ => 0, fun _ => 0, 0⟩ WF := by
  subst e
  have hz := hs.lt
  have n1 : gl ≠ po := isblk_ne hl hv (by decide)
  have n2 : gf ≠ po := isblk_ne hf hv (by decide)
  have n3 : gt ≠ po := isblk_ne ht hv (by decide)
  have n4 : gl ≠ gf := isblk_ne2 hl hf (by decide)
  have n5 : gl ≠ gt := isblk_ne2 hl ht (by decide)
  refine ⟨((((((hs.next hb).set (by omega) 0 _).set (by omega) 1 _).set (by omega) 2 _).set (by omega) 3 _).set (by omega) 4 _), ?_, hl.block (putRo_block _ _ _ _ _ _ _ _ n1), hf.block (putRo_block _ _ _ _ _ _ _ _ n2), ht.block (putRo_block _ _ _ _ _ _ _ _ n3), by omega⟩
  refine row_congr (((((hv.set 0 _).set 1 _).set 2 _).set 3 _).set 4 _) (fun i hi => ?_)
  have h5 : i = 0 ∨ i = 1 ∨ i = 2 ∨ i = 3 ∨ i = 4 := by omega
  rcases h5 with rfl | rfl | rfl | rfl | rfl <;> rfl
theorem rr_leaf {w V0 V : World} {n po gl cA gf gt : Nat} {rs : Nat → Sw.Rc} (hs : RoSlot w V0) (hb : Below V0.heap.size V0 V)
    (hv : V.rowIs po 27 5 (ro5 (.slice none 0 0) (.slice none 0 0) (.slice none 0 0) 0 0)) (hl : RcBlk gl n rs V) (hf : InBlk gf n (fun _ => 0) V) (ht : InBlk gt n (fun _ => 0) V) (h1 : V0.heap.size ≤ po) (h2 : V0.heap.size ≤ gf) (h3 : V0.heap.size ≤ gt) (h4 : V0.heap.size ≤ gl) (h5 : gf ≠ gt) :
    ∃ WF, Hid (WF = ((((V.setCell ⟨po, 0, none⟩ (.slice (some ⟨gl, 0, none⟩) n cA)).setCell ⟨po, 1, none⟩ (.slice (some ⟨gf, 0, none⟩) n n)).setCell ⟨po, 2, none⟩ (.slice (some ⟨gt, 0, none⟩) n n)).setCell ⟨po, 3, none⟩ (.int .i64 0)).setCell ⟨po, 4, none⟩ (.int .i64 0)) ∧ Hid (RR w n gl gf gt cA po ⟨rs, fun _ => 0, fun _ => 0, 0⟩ WF) ∧ Hid (Below V0.heap.size V0 WF) ∧
      (V.cell? ⟨po, 0, none⟩ = some (.slice none 0 0) ∧ V.cell? ⟨po, 1, none⟩ = some (.slice none 0 0) ∧ V.cell? ⟨po, 2, none⟩ = some (.slice none 0 0) ∧ V.cell? ⟨po, 3, none⟩ = some (.int .i64 0) ∧ V.cell? ⟨po, 4, none⟩ = some (.int .i64 0)) ∧
      (V.frozen? ⟨po, 0, none⟩ = false ∧ V.frozen? ⟨po, 1, none⟩ = false ∧ V.frozen? ⟨po, 2, none⟩ = false ∧ V.frozen? ⟨po, 3, none⟩ = false ∧ V.frozen? ⟨po, 4, none⟩ = false) ∧ po < V.heap.size :=
  ⟨_, rfl, rr_made rfl hs hb hv hl hf ht h1 h2 h3 h4 h5, ((((hb.setCell (p := ⟨po, 0, none⟩) h1 _).setCell (p := ⟨po, 1, none⟩) h1 _).setCell (p := ⟨po, 2, none⟩) h1 _).setCell (p := ⟨po, 3, none⟩) h1 _).setCell (p := ⟨po, 4, none⟩) h1 _,
    ⟨hv.cell (i := 0) (by omega), hv.cell (i := 1) (by omega), hv.cell (i := 2) (by omega), hv.cell (i := 3) (by omega), hv.cell (i := 4) (by omega)⟩, ⟨hv.frozen 0, hv.frozen 1, hv.frozen 2, hv.frozen 3, hv.frozen 4⟩, hv.lt⟩
/-- What stands while the sums are made. -/
structure RL (w : World) (n xl xc gf gt po : Nat) (t : Sw.RSt) (s : Sw.St) (ps xf cf xt ct : Nat) (x0 x3 x4 : Value) (W : World) : Prop where
  rr : RR w n xl gf gt xc po t W
  box : W.rowIs ps 27 5 (fun i => if i = 0 then x0 else if i = 1 then .slice (some ⟨xf, 0, none⟩) n cf else if i = 2 then .slice (some ⟨xt, 0, none⟩) n ct else if i = 3 then x3 else x4)
  fl : InBlk xf n s.fl W
  tk : InBlk xt n s.tk W
  ne : (ps ≠ gf ∧ ps ≠ gt) ∧ (xf ≠ gf ∧ xf ≠ gt) ∧ (xt ≠ gf ∧ xt ≠ gt)
section
variable {w : World} {n xl xc gf gt po : Nat} {t : Sw.RSt} {s : Sw.St} {ps xf cf xt ct : Nat} {x0 x3 x4 : Value} {W : World}
theorem RL.drew (h : RL w n xl xc gf gt po t s ps xf cf xt ct x0 x3 x4 W) : RL w n xl xc gf gt po t s ps xf cf xt ct x0 x3 x4 W.drew :=
  ⟨h.rr.below (Below.refl _ _).drew, rrow_below h.box (Below.refl _ _).drew, h.fl.block rfl, h.tk.block rfl, h.ne⟩
theorem RL.putF (h : RL w n xl xc gf gt po t s ps xf cf xt ct x0 x3 x4 W) (i : Nat) (x : Int) : RL w n xl xc gf gt po { t with fl := Sw.upd t.fl i x } s ps xf cf xt ct x0 x3 x4 (W.setCell ⟨gf, i, none⟩ (.int .i64 x)) := by
  obtain ⟨⟨a1, a2⟩, ⟨b1, b2⟩, ⟨c1, c2⟩⟩ := h.ne
  have hf := h.rr.far
  have hb : ∀ k, k ≠ gf → (W.setCell ⟨gf, i, none⟩ (.int .i64 x)).heap[k]? = W.heap[k]? := fun k hk => blk_setCell_other _ _ _ _ (by show k ≠ gf; exact hk)
  exact ⟨⟨h.rr.slot.set (by omega) i _, h.rr.out.of_block (hb _ (by omega)), h.rr.ls.block (hb _ (by omega)), InBlk.setU h.rr.fl i x, h.rr.tk.block (hb _ (by omega)), h.rr.far⟩, h.box.of_block (hb _ a1), h.fl.block (hb _ b1), h.tk.block (hb _ c1), h.ne⟩
theorem RL.putT (h : RL w n xl xc gf gt po t s ps xf cf xt ct x0 x3 x4 W) (i : Nat) (x : Int) : RL w n xl xc gf gt po { t with tk := Sw.upd t.tk i x } s ps xf cf xt ct x0 x3 x4 (W.setCell ⟨gt, i, none⟩ (.int .i64 x)) := by
  obtain ⟨⟨a1, a2⟩, ⟨b1, b2⟩, ⟨c1, c2⟩⟩ := h.ne
  have hf := h.rr.far
  have hb : ∀ k, k ≠ gt → (W.setCell ⟨gt, i, none⟩ (.int .i64 x)).heap[k]? = W.heap[k]? := fun k hk => blk_setCell_other _ _ _ _ (by show k ≠ gt; exact hk)
  exact ⟨⟨h.rr.slot.set (by omega) i _, h.rr.out.of_block (hb _ (by omega)), h.rr.ls.block (hb _ (by omega)), h.rr.fl.block (hb _ (by omega)), InBlk.setU h.rr.tk i x, h.rr.far⟩, h.box.of_block (hb _ a2), h.fl.block (hb _ b2), h.tk.block (hb _ c2), h.ne⟩
end
/-- The sums up to a place. -/
def midR (t : Sw.RSt) (s : Sw.St) (i j : Nat) : Sw.RSt := ⟨Sw.after t.rs s, addTo t.fl s.fl i, addTo t.tk s.tk j, t.sea + s.sea⟩
theorem addTo_at (f k : Nat → Int) (i : Nat) : addTo f k i i = f i := by unfold addTo; simp
theorem addTo_zero (f k : Nat → Int) : addTo f k 0 = f := by funext j; unfold addTo; simp
/-- What stands behind the call of a step: a fault's code, or the step's answer. -/
def StS (w : World) (n po gl c gf gt : Nat) (t : Sw.RSt) (len : Nat) (f : Nat → Int) (ps : Nat) (W : World) : Prop :=
  (∃ code : Int, code ≠ 0 ∧ (∀ s, Sw.stepF n len t.rs f ≠ .ok s) ∧ RoSlot w W ∧ W.rowIs ps 27 5 (ro5 (.slice none 0 0) (.slice none 0 0) (.slice none 0 0) 0 code)) ∨
  ∃ s xl xc xf cf xt ct, Sw.stepF n len t.rs f = .ok s ∧ RR w n gl gf gt c po t W ∧ W.rowIs ps 27 5 (ro5 (.slice (some ⟨xl, 0, none⟩) n xc) (.slice (some ⟨xf, 0, none⟩) n cf) (.slice (some ⟨xt, 0, none⟩) n ct) s.sea 0) ∧ RcBlk xl n (Sw.after t.rs s) W ∧ InBlk xf n s.fl W ∧ InBlk xt n s.tk W ∧ (∃ B, (w.heap.size < B ∧ po < B ∧ gl < B ∧ gf < B ∧ gt < B) ∧ (B ≤ ps ∧ B ≤ xl ∧ B ≤ xf ∧ B ≤ xt))
theorem ro_put {W : World} {ps : Nat} {a b c a' b' c' : Value} {d e d' e' : Int} (h : W.rowIs ps 27 5 (ro5 a b c d e)) : (((((W.setCell ⟨ps, 0, none⟩ a').setCell ⟨ps, 1, none⟩ b').setCell ⟨ps, 2, none⟩ c').setCell ⟨ps, 3, none⟩ (.int .i64 d')).setCell ⟨ps, 4, none⟩ (.int .i64 e')).rowIs ps 27 5 (ro5 a' b' c' d' e') := by
  refine row_congr (((((h.set 0 _).set 1 _).set 2 _).set 3 _).set 4 _) (fun i hi => ?_)
  have h5 : i = 0 ∨ i = 1 ∨ i = 2 ∨ i = 3 ∨ i = 4 := by omega
  rcases h5 with rfl | rfl | rfl | rfl | rfl <;> rfl
theorem RR.same {w : World} {n po gl c gf gt : Nat} {t : Sw.RSt} {W W' : World} (h : RR w n gl gf gt c po t W) {ps : Nat} (hs : RoSlot w W') (hlt : po < ps ∧ gl < ps ∧ gf < ps ∧ gt < ps) (hb : ∀ k, k ≠ ps → W'.heap[k]? = W.heap[k]?) : RR w n gl gf gt c po t W' :=
  ⟨hs, h.out.of_block (hb _ (by omega)), h.ls.block (hb _ (by omega)), h.fl.block (hb _ (by omega)), h.tk.block (hb _ (by omega)), h.far⟩
/-- The list and what came to the works are taken over. -/
theorem rl_take {w W : World} {n gl c gf gt po : Nat} {t : Sw.RSt} {s : Sw.St} {ps xl xc xf cf xt ct : Nat} (h : RR w n gl gf gt c po t W) (hbx : W.rowIs ps 27 5 (ro5 (.slice (some ⟨xl, 0, none⟩) n xc) (.slice (some ⟨xf, 0, none⟩) n cf) (.slice (some ⟨xt, 0, none⟩) n ct) s.sea 0)) (h1 : RcBlk xl n (Sw.after t.rs s) W) (h2 : InBlk xf n s.fl W) (h3 : InBlk xt n s.tk W) (hB : ∃ B, (w.heap.size < B ∧ po < B ∧ gl < B ∧ gf < B ∧ gt < B) ∧ (B ≤ ps ∧ B ≤ xl ∧ B ≤ xf ∧ B ≤ xt)) :
    RL w n xl xc gf gt po (midR t s 0 0) s ps xf cf xt ct (.slice (some ⟨xl, 0, none⟩) n xc) (.int .i64 s.sea) (.int .i64 0) ((W.setCell ⟨po, 0, none⟩ (.slice (some ⟨xl, 0, none⟩) n xc)).setCell ⟨po, 3, none⟩ (.int .i64 (t.sea + s.sea))) := by
  obtain ⟨B, hB1, hB2⟩ := hB
  have hb : ∀ k, k ≠ po → ((W.setCell ⟨po, 0, none⟩ (.slice (some ⟨xl, 0, none⟩) n xc)).setCell ⟨po, 3, none⟩ (.int .i64 (t.sea + s.sea))).heap[k]? = W.heap[k]? := fun k hk => by
    rw [blk_setCell_other _ _ _ _ (by show k ≠ po; exact hk), blk_setCell_other _ _ _ _ (by show k ≠ po; exact hk)]
  have hf := h.far
  refine ⟨⟨(h.slot.set hf.1 0 _).set hf.1 3 _, ?_, h1.block (hb _ (by omega)), ?_, ?_, by omega⟩, (row_congr hbx (fun i hi => ?_)).of_block (hb _ (by omega)), h2.block (hb _ (by omega)), h3.block (hb _ (by omega)), by omega⟩
  · refine row_congr ((h.out.set 0 _).set 3 _) (fun i hi => ?_)
    have h5 : i = 0 ∨ i = 1 ∨ i = 2 ∨ i = 3 ∨ i = 4 := by omega
    rcases h5 with rfl | rfl | rfl | rfl | rfl <;> rfl
  · show InBlk gf n (addTo t.fl s.fl 0) _
    rw [addTo_zero]; exact h.fl.block (hb _ (by omega))
  · show InBlk gt n (addTo t.tk s.tk 0) _
    rw [addTo_zero]; exact h.tk.block (hb _ (by omega))
  · have h5 : i = 0 ∨ i = 1 ∨ i = 2 ∨ i = 3 ∨ i = 4 := by omega
    rcases h5 with rfl | rfl | rfl | rfl | rfl <;> rfl
theorem midR_full {n : Nat} {t : Sw.RSt} {s : Sw.St} {w W : World} {xl xc gf gt po : Nat} (h : RR w n xl gf gt xc po (midR t s n n) W) : RR w n xl gf gt xc po ⟨Sw.after t.rs s, fun j => t.fl j + s.fl j, fun j => t.tk j + s.tk j, t.sea + s.sea⟩ W :=
  ⟨h.slot, h.out, h.ls, h.fl.congr (fun j hj => by show addTo t.fl s.fl n j = _; unfold addTo; rw [if_pos hj]), h.tk.congr (fun j hj => by show addTo t.tk s.tk n j = _; unfold addTo; rw [if_pos hj]), h.far⟩
theorem runs_stepF {n : Nat} {rs : Nat → Sw.Rc} {q : Nat → Sw.Rain} {k : Nat} {t : Sw.RSt} {s : Sw.St} (h : Sw.runs n rs q k = some t) (hs : Sw.stepF n (q k).len t.rs (q k).at_ = .ok s) : Sw.runs n rs q (k + 1) = some ⟨Sw.after t.rs s, fun j => t.fl j + s.fl j, fun j => t.tk j + s.tk j, t.sea + s.sea⟩ := by
  obtain ⟨h1, rfl⟩ := Sw.stepF_inv hs
  exact Sw.runs_next h h1.2
theorem runs_nostep {n M : Nat} {rs : Nat → Sw.Rc} {q : Nat → Sw.Rain} {k : Nat} {t : Sw.RSt} (hr : Sw.Right n t.rs) (h : Sw.runs n rs q k = some t) (hs : ∀ s, Sw.stepF n (q k).len t.rs (q k).at_ ≠ .ok s) (hk : k < M) : Sw.runs n rs q M = none := by
  refine Sw.runs_bad h (fun hok => ?_) hk
  refine hs (Sw.run t.rs (q k).at_ n) ?_
  have hn := hr.1.2
  rw [Sw.stepF_in (by rw [hok.1]; omega), Sw.step_ok ⟨hr, hok⟩]

set_option maxRecDepth 100000 in
set_option maxHeartbeats 2000000 in
theorem specRun_over (a b : Option Addr) (n cn M cr : Nat) (w : World) (ho : 400 < n ∨ 60 < M) :
    Calls Tryd.prog 26 #[.slice a n cn, .slice b M cr] w fun e w' => e = .returned (.agg #[.slice none 0 0, .slice none 0 0, .slice none 0 0, .int .i64 0, .int .i64 2]) ∧ Below w.heap.size w w' := by
  have key : ∀ (K : Prop), ((400 : Int) < (n : Int) → K) → (¬ (400 : Int) < (n : Int) → (60 : Int) < (M : Int) → K) → K := fun K k1 k2 => by
    by_cases hn : (400 : Int) < (n : Int)
    · exact k1 hn
    · exact k2 hn (by omega)
  clear ho
  refine key _ (fun hz => ?_) (fun hz hz2 => ?_)
  all_goals
    go_enter Tryd.func26, Tryd.ntmps26
    go_wp2_with fail
    exact bodyPost_ret (v := .agg #[.slice none 0 0, .slice none 0 0, .slice none 0 0, .int .i64 0, .int .i64 2]) (by
      simp [results, Tryd.results26, go_sem]) rfl ⟨rfl, (Below.refl _ _).alloc (Nat.le_refl _) _⟩
set_option maxRecDepth 100000 in
set_option maxHeartbeats 2000000 in
theorem specRun_no (a b : Option Addr) (n cn M cr : Nat) (rs : Nat → Sw.Rc) (w : World) (h : RcsAt a n rs w) (ho : ¬ (400 < n ∨ 60 < M)) (hr : ¬ Sw.Right n rs) :
    Calls Tryd.prog 26 #[.slice a n cn, .slice b M cr] w fun e w' => e = .returned (.agg #[.slice none 0 0, .slice none 0 0, .slice none 0 0, .int .i64 0, .int .i64 1]) ∧ Below w.heap.size w w' := by
  have hz : ¬ (400 : Int) < (n : Int) := by omega
  have hz2 : ¬ (60 : Int) < (M : Int) := by omega
  have H := Lib.hid h
  have HR := Lib.hid hr
  clear h ho hr
  go_enter Tryd.func26, Tryd.ntmps26
  go_wp2_with fail
  refine (specRight_any a n cn rs _ (H.out.below ((Below.refl _ _).alloc (Nat.le_refl _) _))).mono ?_
  rintro e w1 ⟨⟨b1, rfl, hb1⟩, hb⟩
  obtain rfl : b1 = false := by
    cases b1 with
    | false => rfl
    | true => exact absurd (hb1.1 rfl) HR.out
  have hs : RoSlot w w1 := (RoSlot.start w).next hb
  obtain ⟨⟨q0, q1, q2, q3, q4⟩, ⟨f0, f1, f2, f3, f4⟩⟩ := hs.kept
  have hz1 := hs.lt
  have hF := Lib.hid (hs.fin (.slice none 0 0) (.slice none 0 0) (.slice none 0 0) (.int .i64 0) (.int .i64 1))
  clear hs hb hb1
  go_wp2_with fail
  exact bodyPost_ret (v := .agg #[.slice none 0 0, .slice none 0 0, .slice none 0 0, .int .i64 0, .int .i64 1]) (by
    obtain ⟨⟨x0, x1, x2, x3, x4⟩, _⟩ := hF.out
    simp only [results, Tryd.results26]
    simp [go_sem, x0, x1, x2, x3, x4]) rfl ⟨rfl, hF.out.2⟩
end Go.Proofs.YtokbhkcpkilcmaaDoor
