/-
  Joined: MnPd, MnPe, MnR15, MnR17, MnR21, MnR25, MnDl, MnR31, MnDm, MnDs.
-/
import Derived.Test.YtfgmalnkpgloiaaGreatDoorMnLp
import Derived.Test.YtfgmalnkpgloiaaGreatDoorSource
import Derived.Test.YtfgmalnkpgloiaaGreatDoorRegL
import Derived.Maps.AppendAt
import Derived.Test.YtfgmalnkpgloiaaGreatDoorMnR8
import Derived.Deep.DeepCutAuto
import Derived.Deep.RegionHeld3
namespace Go.Proofs.YtfgmalnkpgloiaaGreatDoor
open Go Go.RowKit Go.Deep

theorem pinfo : (Tryz.prog.info? 36).map (fun i => (i.zero, i.size, i.bytes)) = some (some (.agg #[.int .i64 0, .int .i64 0, .int .i64 0, .int .i64 0, .int .i64 0]), 5, 40) := by kernel_rfl
theorem md_size {sb : Nat} {w : World} (h : Src sb w) : ∃ z : Int, w.cell? ⟨sb, 3, none⟩ = some (.int .i64 z) ∧ 0 ≤ z ∧ z ≤ 12 := by
  obtain ⟨a, len, cap, at_, mix, size, ⟨c0, c1, c2, c3, _⟩, h1, h2, h3, h4, h5, h6⟩ := h
  exact ⟨size, c3, h4, h5⟩
theorem Src.keep {sb : Nat} {w w' : World} (h : Src sb w) (hb : ∀ k, k ≤ sb → w'.heap[k]? = w.heap[k]?) : Src sb w' := by
  obtain ⟨a, len, cap, at_, mix, size, ⟨c0, c1, c2, c3, f0, f1, f2, f3⟩, h1, h2, h3, h4, h5, h6⟩ := h
  have ce : ∀ o, w'.cell? ⟨sb, o, none⟩ = w.cell? ⟨sb, o, none⟩ := fun o => World.cell?_of_block (hb sb (Nat.le_refl _))
  have fe : ∀ o, w'.frozen? ⟨sb, o, none⟩ = w.frozen? ⟨sb, o, none⟩ := fun o => World.frozen?_of_block (hb sb (Nat.le_refl _))
  refine ⟨a, len, cap, at_, mix, size, ⟨(ce 0).trans c0, (ce 1).trans c1, (ce 2).trans c2, (ce 3).trans c3, (fe 0).trans f0, (fe 1).trans f1, (fe 2).trans f2, (fe 3).trans f3⟩, h1, h2, h3, h4, h5, fun i hi => ?_⟩
  obtain ⟨cb, co, z, e, hne, hc, z0, z1⟩ := h6 i hi
  exact ⟨cb, co, z, e, hne, (World.cell?_of_block (a := ⟨cb, co + i, none⟩) (hb cb (by omega))).trans hc, z0, z1⟩

set_option maxHeartbeats 1000000 in
theorem md_wrap {x : Int} (h1 : -9223372036854775808 ≤ x) (h2 : x ≤ 9223372036854775807) : IntKind.i64.wrap x = x := by simp [IntKind.wrap, IntKind.bits, IntKind.signed]; omega
theorem md_chg {W W' : World} {sb g : Nat} {T : TypeId} {m : Nat} {F : Nat → Value} (h : W.rowIs g T m F) (hg : g ≠ sb) (hc : Chg sb W W') : W'.rowIs g T m F := h.of_block (hc.2.2.2.2 g h.lt hg)
/-- What lasts while mains are drawn. -/
structure MM (w : World) (sb R : Nat) (pv lv wv : Value) (pn wn : Nat) (ps ws : List Int) (qs : List (Value × List Int)) (W : World) : Prop where
  src : Drew sb w W
  sbl : sb < w.heap.size
  rl : w.heap.size < R
  res : W.rowIs w.heap.size 27 5 (rowN [.int .i64 0, .int .i64 0, .slice none 0 0, .slice none 0 0, .slice none 0 0])
  po : W.ownsRow w.heap.size 36 5 pv pn (jvs ps)
  wo : W.ownsRow w.heap.size 2 1 wv wn (jvs ws)
  lo : W.ownsRow w.heap.size 25 1 lv qs.length (qs.map Prod.fst)
  li : ∃ bs, w.heap.size ≤ bs ∧ (∀ k, wv.ownBlock = some k → k < bs) ∧ ∀ x, x ∈ qs → OwnJ bs x.1 x.2 W
section
variable {w : World} {sb R : Nat} {pv lv wv : Value} {pn wn : Nat} {ps ws : List Int} {qs : List (Value × List Int)} {W W' : World}
theorem MM.keep (h : MM w sb R pv lv wv pn wn ps ws qs W) (hs : Drew sb w W') (hb : ∀ k, w.heap.size ≤ k → k < W.heap.size → W'.heap[k]? = W.heap[k]?) : MM w sb R pv lv wv pn wn ps ws qs W' := by
  refine ⟨hs, h.sbl, h.rl, h.res.of_block (hb _ (Nat.le_refl _) h.res.lt), lpown_block h.po (fun k e hl => hb k (World.ownsRow.lt h.po k e).1 hl), lpown_block h.wo (fun k e hl => hb k (World.ownsRow.lt h.wo k e).1 hl), lpown_block h.lo (fun k e hl => hb k (World.ownsRow.lt h.lo k e).1 hl), ?_⟩
  obtain ⟨bs, h1, h2, h3⟩ := h.li
  exact ⟨bs, h1, h2, fun x hx => lpown_block (h3 x hx) (fun k e hl => hb k (by have := (World.ownsRow.lt (h3 x hx) k e).1; omega) hl)⟩
theorem MM.draw (h : MM w sb R pv lv wv pn wn ps ws qs W) (hd : Drew sb W W') : MM w sb R pv lv wv pn wn ps ws qs W' :=
  h.keep ⟨hd.1, h.src.2.trans hd.2⟩ (fun k h1 h2 => hd.2.2.2.2.2 k h2 (by have := h.sbl; omega))
theorem MM.below (h : MM w sb R pv lv wv pn wn ps ws qs W) (hb : Below W.heap.size W W') : MM w sb R pv lv wv pn wn ps ws qs W' :=
  h.keep ⟨h.src.1.below hb, h.src.2.trans (Chg.of_below hb)⟩ (fun k _ h2 => hb.block k h2)
/-- A store into a block of the call's own that is none of these. -/
theorem MM.far (h : MM w sb R pv lv wv pn wn ps ws qs W) {g i : Nat} (hg : w.heap.size < g) (v : Value) (h1 : some g ≠ pv.ownBlock) (h2 : some g ≠ wv.ownBlock) (h3 : some g ≠ lv.ownBlock) (h4 : ∀ x, x ∈ qs → some g ≠ x.1.ownBlock) : MM w sb R pv lv wv pn wn ps ws qs (W.setCell ⟨g, i, none⟩ v) := by
  have hk : ∀ k, k ≠ g → (W.setCell ⟨g, i, none⟩ v).heap[k]? = W.heap[k]? := fun k hk => Below.heap_setCell _ _ _ _ hk
  have hsz : (W.setCell ⟨g, i, none⟩ v).heap.size = W.heap.size := by simp
  have ne : ∀ {u : Value} {k : Nat}, some g ≠ u.ownBlock → u.ownBlock = some k → k ≠ g := fun hu e e2 => hu (by rw [e, e2])
  refine ⟨⟨h.src.1.keep (fun k hk2 => hk k (by have := h.sbl; omega)), h.src.2.1, h.src.2.2.1, h.src.2.2.2.1, by rw [hsz]; exact h.src.2.2.2.2.1, fun k h1 h2 => (hk k (by omega)).trans (h.src.2.2.2.2.2 k h1 h2)⟩, h.sbl, h.rl, h.res.of_block (hk _ (by omega)), lpown_block h.po (fun k e _ => hk k (ne h1 e)), lpown_block h.wo (fun k e _ => hk k (ne h2 e)), lpown_block h.lo (fun k e _ => hk k (ne h3 e)), ?_⟩
  obtain ⟨bs, b1, b2, b3⟩ := h.li
  exact ⟨bs, b1, b2, fun x hx => lpown_block (b3 x hx) (fun k e _ => hk k (ne (h4 x hx) e))⟩
/-- A store into the mains' own block. -/
theorem MM.set (h : MM w sb R pv lv wv pn wn ps ws qs W) {i m : Nat} {F : Nat → Value} (hr : W.rowIs R 27 m F) (v : Value) : MM w sb R pv lv wv pn wn ps ws qs (W.setCell ⟨R, i, none⟩ v) := by
  refine h.far h.rl v (lpown_rne h.po hr (by decide)) (lpown_rne h.wo hr (by decide)) (lpown_rne h.lo hr (by decide)) (fun x hx => ?_)
  obtain ⟨bs, b1, b2, b3⟩ := h.li
  exact lpown_rne (b3 x hx) hr (by decide)
/-- A store into a pipe's box. -/
theorem MM.box (h : MM w sb R pv lv wv pn wn ps ws qs W) {r i m : Nat} {F : Nat → Value} (hr : W.rowIs r 36 m F) (hg : w.heap.size < r) (hn : some r ≠ pv.ownBlock) (v : Value) : MM w sb R pv lv wv pn wn ps ws qs (W.setCell ⟨r, i, none⟩ v) := by
  refine h.far hg v hn (lpown_rne h.wo hr (by decide)) (lpown_rne h.lo hr (by decide)) (fun x hx => ?_)
  obtain ⟨bs, b1, b2, b3⟩ := h.li
  exact lpown_rne (b3 x hx) hr (by decide)
/-- The memory that an append changes. -/
theorem md_grown {v : Value} (hs : Drew sb w W) (hg : W.grownBy W' v.ownBlock) (hv : ∀ k, v.ownBlock = some k → w.heap.size ≤ k) (hl : sb < w.heap.size) : Drew sb w W' := by
  have hk : ∀ k, k < w.heap.size → W'.heap[k]? = W.heap[k]? := fun k hk => hg.block k (by have := hs.2.size; omega) (fun e => by have := hv k e.symm; omega)
  exact ⟨hs.1.keep (fun k hk2 => hk k (by omega)), hg.os.trans hs.2.1, hg.tape.trans hs.2.2.1, hg.output.trans hs.2.2.2.1, Nat.le_trans hs.2.size hg.size, fun k h1 h2 => (hk k h1).trans (hs.2.2.2.2.2 k h1 h2)⟩
theorem MM.pipes {pv' : Value} {zs : List Int} (h : MM w sb R pv lv wv pn wn ps ws qs W) (hg : W.grownBy W' pv.ownBlock) (ho : W'.ownsRow w.heap.size 36 5 pv' (pn + 1) (jvs ps ++ jvs zs)) : MM w sb R pv' lv wv (pn + 1) wn (ps ++ zs) ws qs W' := by
  refine ⟨md_grown h.src hg (fun k e => (World.ownsRow.lt h.po k e).1) h.sbl, h.sbl, h.rl, h.res.of_block (hg.block _ h.res.lt (lpown_rne h.po h.res (by decide))), by rw [jvs, List.map_append]; exact ho, lpown_block h.wo (fun k e hl => hg.block k hl (lpown_one h.wo h.po (by decide) k e)), lpown_block h.lo (fun k e hl => hg.block k hl (lpown_one h.lo h.po (by decide) k e)), ?_⟩
  obtain ⟨bs, b1, b2, b3⟩ := h.li
  exact ⟨bs, b1, b2, fun x hx => lpown_block (b3 x hx) (fun k e hl => hg.block k hl (lpown_one (b3 x hx) h.po (by decide) k e))⟩
/-- The wants, while there are no loops. -/
theorem MM.wants {wv' : Value} {zs : List Int} (h : MM w sb R pv lv wv pn wn ps ws [] W) (hg : W.grownBy W' wv.ownBlock) (ho : W'.ownsRow w.heap.size 2 1 wv' (wn + 1) (jvs ws ++ jvs zs)) : MM w sb R pv lv wv' pn (wn + 1) ps (ws ++ zs) [] W' := by
  refine ⟨md_grown h.src hg (fun k e => (World.ownsRow.lt h.wo k e).1) h.sbl, h.sbl, h.rl, h.res.of_block (hg.block _ h.res.lt (lpown_rne h.wo h.res (by decide))), lpown_block h.po (fun k e hl => hg.block k hl (lpown_one h.po h.wo (by decide) k e)), by rw [jvs, List.map_append]; exact ho, lpown_block h.lo (fun k e hl => hg.block k hl (lpown_one h.lo h.wo (by decide) k e)), W'.heap.size, ?_, fun k e => (World.ownsRow.lt ho k e).2, fun x hx => by cases hx⟩
  exact Nat.le_trans h.src.2.size hg.size
/-- The mains' own block stays behind an append. -/
theorem md_row {T T' : TypeId} {s B g m n : Nat} {v : Value} {F : Nat → Value} {xs : List Value} (hr : W.rowIs g T' m F) (ho : W.ownsRow B T s v n xs) (hT : T ≠ T') (hg : W.grownBy W' v.ownBlock) : W'.rowIs g T' m F :=
  hr.of_block (hg.block _ hr.lt (lpown_rne ho hr hT))
end
/-- Pipes that lead up: a list of five numbers each. -/
structure PU (i pn : Nat) (ps : List Int) : Prop where
  len : ps.length = pn * 5
  most : pn + 2 ≤ 2 * i
  up : ∀ k, k < pn → 0 ≤ ps.getD (k * 5 + 1) 0 ∧ ps.getD (k * 5 + 1) 0 < ps.getD (k * 5 + 2) 0 ∧ ps.getD (k * 5 + 2) 0 < (i : Int)
  all : ∀ j : Nat, 1 ≤ j → j < i → ∃ k, k < pn ∧ ps.getD (k * 5 + 2) 0 = (j : Int)
theorem PU.start : PU 1 0 [] := ⟨rfl, Nat.le_refl _, fun k hk => absurd hk (Nat.not_lt_zero _), fun j h1 h2 => by omega⟩
theorem pu_old {ps zs : List Int} {n j : Nat} (h : ps.length = n) (hj : j < n) : (ps ++ zs).getD j 0 = ps.getD j 0 := by
  simp [List.getD_eq_getElem?_getD, List.getElem?_append_left (show j < ps.length by omega)]
theorem pu_new {ps zs : List Int} {n j : Nat} (h : ps.length = n) : (ps ++ zs).getD (n + j) 0 = zs.getD j 0 := by
  subst h
  rw [List.getD_eq_getElem?_getD, List.getD_eq_getElem?_getD, List.getElem?_append_right (by omega), Nat.add_sub_cancel_left]
/-- Half a round: a pipe to place i, the first one or another one. -/
structure PH (i pn : Nat) (ps : List Int) : Prop where
  len : ps.length = pn * 5
  up : ∀ k, k < pn → 0 ≤ ps.getD (k * 5 + 1) 0 ∧ ps.getD (k * 5 + 1) 0 < ps.getD (k * 5 + 2) 0 ∧ ps.getD (k * 5 + 2) 0 < (i : Int) + 1
  all : ∀ j : Nat, 1 ≤ j → j < i + 1 → ∃ k, k < pn ∧ ps.getD (k * 5 + 2) 0 = (j : Int)
theorem pu_push {i pn : Nat} {ps : List Int} (hl : ps.length = pn * 5) (hu : ∀ k, k < pn → 0 ≤ ps.getD (k * 5 + 1) 0 ∧ ps.getD (k * 5 + 1) 0 < ps.getD (k * 5 + 2) 0 ∧ ps.getD (k * 5 + 2) 0 < (i : Int) + 1) (ha : ∀ j : Nat, 1 ≤ j → j < i → ∃ k, k < pn ∧ ps.getD (k * 5 + 2) 0 = (j : Int)) (K f d q : Int) (h0 : 0 ≤ f) (h1 : f < i) : PH i (pn + 1) (ps ++ [K, f, (i : Int), d, q]) := by
  refine ⟨by simp [hl]; omega, fun k hk => ?_, fun j j1 j2 => ?_⟩
  · by_cases e : k = pn
    · subst e
      rw [pu_new hl, pu_new hl]
      exact ⟨h0, h1, by show (i : Int) < (i : Int) + 1; omega⟩
    · rw [pu_old hl (by omega), pu_old hl (by omega)]
      exact hu k (by omega)
  · by_cases e : j = i
    · exact ⟨pn, by omega, by rw [pu_new hl, e]; rfl⟩
    · obtain ⟨k, k1, k2⟩ := ha j j1 (by omega)
      exact ⟨k, by omega, by rw [pu_old hl (by omega)]; exact k2⟩
theorem PU.one {i pn : Nat} {ps : List Int} (h : PU i pn ps) (K f d q : Int) (h0 : 0 ≤ f) (h1 : f < i) : PH i (pn + 1) (ps ++ [K, f, (i : Int), d, q]) := pu_push h.len (fun k hk => ⟨(h.up k hk).1, (h.up k hk).2.1, by have := (h.up k hk).2.2; omega⟩) h.all K f d q h0 h1
theorem PH.two {i pn : Nat} {ps : List Int} (h : PH i pn ps) (K f d q : Int) (h0 : 0 ≤ f) (h1 : f < i) : PH i (pn + 1) (ps ++ [K, f, (i : Int), d, q]) := pu_push h.len h.up (fun j j1 j2 => h.all j j1 (by omega)) K f d q h0 h1
theorem PH.to {i pn : Nat} {ps : List Int} (h : PH i pn ps) (hm : pn ≤ 2 * i) : PU (i + 1) pn ps := ⟨h.len, by omega, fun k hk => ⟨(h.up k hk).1, (h.up k hk).2.1, by have := (h.up k hk).2.2; omega⟩, fun j j1 j2 => h.all j j1 j2⟩
theorem L_strong {P : Program} {ops : Array Oper} {Q : Exit → Act → World → Prop} {md : Region.Mode} {S S' : World → Prop} {st : Nat} (hS : ∀ w, S' w → S w) : ∀ (fuel : Nat) (listed : Array Bool) (a : Act) (w : World), wpL P md ops Q S' st fuel listed a w → wpL P md ops Q S st fuel listed a w
  | 0, _, _, _, h => h
  | fuel + 1, _, _, _, h => ⟨h.1, fun i hi => wpOp_mono (fun a' w' k => ⟨fun hne => hS _ (k.1 hne), L_strong hS fuel _ a' w' k.2⟩) (h.2 i hi)⟩
theorem mdap {P : Program} {ops : Array Oper} {o : Oper} {a : Act} {w : World} {K : Act → World → Prop} {Q : Exit → Act → World → Prop} {E : Prop}
    (hg : o.guard = none) (s x : Operand) (t : TypeId) (hop : o.op = Op.call { callee := Callee.builtin Builtin.append, args := #[s, x], argTypes := #[t, t] }) (B : Nat)
    (e : TypeId) (i : TypeInfo) (z : Value) (size bytes : Nat) (h1 : P.underlying t = some (.slice e)) (h2 : P.info? e = some i) (h3 : i.zero = some z) (h4 : i.size = size) (h5 : i.bytes = bytes) (h6 : z.cells.size = size) (h7 : 0 < size)
    (v : Value) (n : Nat) (olds : List Value) (hs : a.eval s = v) (hown : w.ownsRow B e size v n olds)
    (ad : Addr) (m c : Nat) (news : List Value) (hx : a.eval x = .slice (some ad) m c) (hn : news.length = m * size) (hc : ∀ j u, news[j]? = some u → w.cell? (ad.add j) = some u) (h1c : ∀ u ∈ news, u.oneCell' = true)
    (b1 : n + m ≤ maxLen) (b2 : (n + m) * bytes ≤ 140737488355328) (hB : B ≤ w.heap.size)
    (hK : ∀ v' w', w'.ownsRow B e size v' (n + m) (olds ++ news) → w.grownBy w' v.ownBlock → K (a.put o.dst v') w') :
    if Region.wanted o (yielded ops a.tmps) = true then Oper.wp P o a w K Q else E := by
  have hw : Region.wanted o (yielded ops a.tmps) = true := by simp [Region.wanted, hg]
  rw [if_pos hw]
  obtain ⟨v', w', hrun, r1, r2, _⟩ := run_append_own (P := P) w B t o.type e i z size bytes h1 h2 h3 h4 h5 h6 h7 v n olds hown ad m c news hn hc h1c b1 b2 hB
  unfold Oper.wp
  simp [execOp, hop, resolve, invoke, builtin, hs, hx, hrun, Result.andThen]
  exact hK v' w' r1 r2
theorem md_isat {B s n : Nat} {T : TypeId} {v : Value} {zs : List Int} {W : World} (h : W.ownsRow B T s v n (jvs zs)) : ∃ a c, v = .slice a n c ∧ IsAt a (n * s) (fun j => zs.getD j 0) W ∧ ∀ b, a = some ⟨b, 0, none⟩ → B ≤ b := by
  have hl : zs.length = n * s := by simpa [jvs] using h.1
  rcases h.2 with ⟨e1, e2⟩ | ⟨g, cap, cur, e1, e2, _⟩
  · exact ⟨none, 0, by rw [e1, e2], Or.inl (by rw [e2]; simp), fun b e => by cases e⟩
  · refine ⟨_, cap, e1, Or.inr ⟨g, rfl, fun j hj => ?_⟩, fun b e => by cases e; exact e2⟩
    have k := World.ownsRow.cells h (g := g) (by rw [e1]; rfl) j (.int .i64 (zs.getD j 0)) (by simp [jvs, hl, hj])
    rw [Addr.add_lit, Nat.zero_add] at k
    exact k
/-- The loops are there. -/
theorem MM.loops {w : World} {sb R : Nat} {pv lv wv lv' : Value} {pn wn : Nat} {ps ws : List Int} {qs : List (Value × List Int)} {W W' : World} (h : MM w sb R pv lv wv pn wn ps ws [] W) (hb : Below W.heap.size W W') (ho : W'.ownsRow W.heap.size 25 1 lv' qs.length (qs.map Prod.fst)) (hj : ∀ x, x ∈ qs → OwnJ W.heap.size x.1 x.2 W') : MM w sb R pv lv' wv pn wn ps ws qs W' := by
  have h2 := h.below hb
  exact ⟨h2.src, h2.sbl, h2.rl, h2.res, h2.po, h2.wo, lpown_low ho h.src.2.size, W.heap.size, h.src.2.size, fun k e => (World.ownsRow.lt h.wo k e).2, hj⟩
/-- Drawn mains, as yet without loops. -/
def md0 (nd hd : Int) (pn wn : Nat) (ps ws : List Int) : Mn.Mains := ⟨nd, hd, pn, fun j => ps.getD j 0, 0, fun _ => 0, fun _ _ => 0, wn, fun j => ws.getD j 0⟩
theorem PU.pr {i pn : Nat} {ps : List Int} (h : PU i pn ps) : Mn.PR i pn (fun j => ps.getD j 0) := h.up
theorem PU.cov {i pn : Nat} {ps : List Int} (h : PU i pn ps) : Mn.Cov i pn (fun j => ps.getD j 0) := h.all
/-- Mains behind half a round. -/
def MX (w : World) (sb R : Nat) (nd hd : Int) (i pn : Nat) (W : World) : Prop := ∃ pv ps, PH i pn ps ∧ pn ≤ 2 * i ∧ MM w sb R pv (.slice none 0 0) (.slice none 0 0) pn 0 ps [] [] W ∧ W.rowIs R 27 5 (rowN [.int .i64 nd, .int .i64 hd, pv, .slice none 0 0, .slice none 0 0])
theorem cells5 (X : World) (T : TypeId) (a b c d e : Value) : ∀ j u, [a, b, c, d, e][j]? = some u → (X.alloc (.cells #[a, b, c, d, e] T)).cell? ((⟨X.heap.size, 0, none⟩ : Addr).add j) = some u := by
  intro j u hj
  match j, hj with
  | 0, hj => simp at hj; subst hj; simp [Addr.add]
  | 1, hj => simp at hj; subst hj; simp [Addr.add]
  | 2, hj => simp at hj; subst hj; simp [Addr.add]
  | 3, hj => simp at hj; subst hj; simp [Addr.add]
  | 4, hj => simp at hj; subst hj; simp [Addr.add]
theorem box5 {w : World} {sb R : Nat} {pv lv wv : Value} {pn wn : Nat} {ps ws : List Int} {qs : List (Value × List Int)} {X : World} (h : MM w sb R pv lv wv pn wn ps ws qs X) {r m : Nat} {F : Nat → Value} (hr : X.rowIs r 36 5 (rowN [.int .i64 0, .int .i64 0, .int .i64 0, .int .i64 0, .int .i64 0])) (hm : X.rowIs R 27 m F) (hg : w.heap.size < r) (hR : R ≠ r) (hn : some r ≠ pv.ownBlock) (a b c d e : Value) :
    MM w sb R pv lv wv pn wn ps ws qs (((((X.setCell ⟨r, 0, none⟩ a).setCell ⟨r, 1, none⟩ b).setCell ⟨r, 2, none⟩ c).setCell ⟨r, 3, none⟩ d).setCell ⟨r, 4, none⟩ e) ∧
    (((((X.setCell ⟨r, 0, none⟩ a).setCell ⟨r, 1, none⟩ b).setCell ⟨r, 2, none⟩ c).setCell ⟨r, 3, none⟩ d).setCell ⟨r, 4, none⟩ e).rowIs r 36 5 (rowN [a, b, c, d, e]) ∧
    (((((X.setCell ⟨r, 0, none⟩ a).setCell ⟨r, 1, none⟩ b).setCell ⟨r, 2, none⟩ c).setCell ⟨r, 3, none⟩ d).setCell ⟨r, 4, none⟩ e).rowIs R 27 m F := by
  have r1 := rowN_put hr 0 a (by simp)
  have r2 := rowN_put r1 1 b (by simp)
  have r3 := rowN_put r2 2 c (by simp)
  have r4 := rowN_put r3 3 d (by simp)
  have r5 := rowN_put r4 4 e (by simp)
  refine ⟨((((h.box hr hg hn a).box r1 hg hn b).box r2 hg hn c).box r3 hg hn d).box r4 hg hn e, r5, hm.of_block ?_⟩
  rw [Below.heap_setCell _ _ _ _ hR, Below.heap_setCell _ _ _ _ hR, Below.heap_setCell _ _ _ _ hR, Below.heap_setCell _ _ _ _ hR, Below.heap_setCell _ _ _ _ hR]
end Go.Proofs.YtfgmalnkpgloiaaGreatDoor
namespace Go.Proofs.YtfgmalnkpgloiaaGreatDoor
open Go Go.RowKit Go.Deep

theorem md_put {w : World} {sb g i : Nat} {W : World} (h : Drew sb w W) (hs : sb < w.heap.size) (hg : w.heap.size ≤ g) (v : Value) : Drew sb w (W.setCell ⟨g, i, none⟩ v) := by
  have hk : ∀ k, k ≠ g → (W.setCell ⟨g, i, none⟩ v).heap[k]? = W.heap[k]? := fun k hk => Below.heap_setCell _ _ _ _ hk
  have hsz : (W.setCell ⟨g, i, none⟩ v).heap.size = W.heap.size := by simp
  exact ⟨h.1.keep (fun k hk2 => hk k (by omega)), h.2.1, h.2.2.1, h.2.2.2.1, by rw [hsz]; exact h.2.2.2.2.1, fun k h1 h2 => (hk k (by omega)).trans (h.2.2.2.2.2 k h1 h2)⟩
/-- Mains that are drawn, all lists of the call's own. -/
structure MW (w : World) (sb R : Nat) (pv lv wv : Value) (pn wn : Nat) (ps ws : List Int) (qs : List (Value × List Int)) (W : World) : Prop where
  src : Drew sb w W
  sbl : sb < w.heap.size
  rl : w.heap.size < R
  res : W.rowIs w.heap.size 27 5 (rowN [.int .i64 0, .int .i64 0, .slice none 0 0, .slice none 0 0, .slice none 0 0])
  po : W.ownsRow w.heap.size 36 5 pv pn (jvs ps)
  wo : W.ownsRow w.heap.size 2 1 wv wn (jvs ws)
  lo : W.ownsRow w.heap.size 25 1 lv qs.length (qs.map Prod.fst)
  li : ∀ x, x ∈ qs → OwnJ w.heap.size x.1 x.2 W
section
variable {w : World} {sb R : Nat} {pv lv wv : Value} {pn wn : Nat} {ps ws : List Int} {qs : List (Value × List Int)} {W W' : World}
theorem MM.whole (h : MM w sb R pv lv wv pn wn ps ws qs W) : MW w sb R pv lv wv pn wn ps ws qs W := by
  obtain ⟨bs, b1, b2, b3⟩ := h.li
  exact ⟨h.src, h.sbl, h.rl, h.res, h.po, h.wo, h.lo, fun x hx => lpown_low (b3 x hx) b1⟩
theorem MW.keep (h : MW w sb R pv lv wv pn wn ps ws qs W) (hs : Drew sb w W') (hr : W'.rowIs w.heap.size 27 5 (rowN [.int .i64 0, .int .i64 0, .slice none 0 0, .slice none 0 0, .slice none 0 0])) (hb : ∀ k, w.heap.size < k → k < W.heap.size → k ≠ R → W'.heap[k]? = W.heap[k]?) {F : Nat → Value} (hm : W.rowIs R 27 5 F) : MW w sb R pv lv wv pn wn ps ws qs W' := by
  have go : ∀ {T : TypeId} {s n : Nat} {v : Value} {xs : List Value}, T ≠ 27 → W.ownsRow w.heap.size T s v n xs → W'.ownsRow w.heap.size T s v n xs := fun hT ho => lpown_block ho (fun k e hl => hb k (by
    have h1 := (World.ownsRow.lt ho k e).1
    have h2 := lpown_rne ho h.res hT
    have : k ≠ w.heap.size := fun e2 => h2 (by rw [e, e2])
    omega) hl (fun e2 => lpown_rne ho hm hT (by rw [e, e2])))
  exact ⟨hs, h.sbl, h.rl, hr, go (by decide) h.po, go (by decide) h.wo, go (by decide) h.lo, fun x hx => go (by decide) (h.li x hx)⟩
/-- A store into the mains' own block. -/
theorem MW.put (h : MW w sb R pv lv wv pn wn ps ws qs W) {F : Nat → Value} (hr : W.rowIs R 27 5 F) {i : Nat} (v : Value) : MW w sb R pv lv wv pn wn ps ws qs (W.setCell ⟨R, i, none⟩ v) := by
  have hk : ∀ k, k ≠ R → (W.setCell ⟨R, i, none⟩ v).heap[k]? = W.heap[k]? := fun k hk => Below.heap_setCell _ _ _ _ hk
  have hd : Drew sb w (W.setCell ⟨R, i, none⟩ v) := md_put h.src h.sbl (Nat.le_of_lt h.rl) v
  exact h.keep hd (h.res.of_block (hk _ (by have := h.rl; omega))) (fun k _ _ hne => hk k hne) hr
/-- The wants, where there are loops. -/
theorem MM.wants2 {wv' : Value} {zs : List Int} (h : MM w sb R pv lv wv pn wn ps ws qs W) (hg : W.grownBy W' wv.ownBlock) (ho : W'.ownsRow w.heap.size 2 1 wv' (wn + 1) (jvs ws ++ jvs zs)) : MW w sb R pv lv wv' pn (wn + 1) ps (ws ++ zs) qs W' := by
  obtain ⟨bs, b1, b2, b3⟩ := h.li
  refine ⟨md_grown h.src hg (fun k e => (World.ownsRow.lt h.wo k e).1) h.sbl, h.sbl, h.rl, h.res.of_block (hg.block _ h.res.lt (lpown_rne h.wo h.res (by decide))), lpown_block h.po (fun k e hl => hg.block k hl (lpown_one h.po h.wo (by decide) k e)), by rw [jvs, List.map_append]; exact ho, lpown_block h.lo (fun k e hl => hg.block k hl (lpown_one h.lo h.wo (by decide) k e)), fun x hx => lpown_low (lpown_block (b3 x hx) (fun k e hl => hg.block k hl (fun e2 => ?_))) b1⟩
  have h1 := b2 k e2.symm
  have h2 := (World.ownsRow.lt (b3 x hx) k e).1
  omega
/-- One loop more. -/
theorem MM.loop {lv' : Value} {x : Value × List Int} (h : MM w sb R pv lv wv pn wn ps ws qs W) (hx : OwnJ w.heap.size x.1 x.2 W) (hg : W.grownBy W' lv.ownBlock) (ho : W'.ownsRow w.heap.size 25 1 lv' (qs.length + 1) (qs.map Prod.fst ++ [x.1])) : MW w sb R pv lv' wv pn wn ps ws (qs ++ [x]) W' := by
  have k := h.whole
  have go : ∀ {T : TypeId} {s n : Nat} {v : Value} {xs : List Value}, T ≠ 25 → W.ownsRow w.heap.size T s v n xs → W'.ownsRow w.heap.size T s v n xs := fun hT ho2 => lpown_block ho2 (fun k e hl => hg.block k hl (lpown_one ho2 h.lo hT k e))
  refine ⟨md_grown h.src hg (fun k e => (World.ownsRow.lt h.lo k e).1) h.sbl, h.sbl, h.rl, h.res.of_block (hg.block _ h.res.lt (lpown_rne h.lo h.res (by decide))), go (by decide) h.po, go (by decide) h.wo, by simpa using ho, fun y hy => ?_⟩
  rcases List.mem_append.1 hy with hy | hy
  · exact go (by decide) (k.li y hy)
  · obtain rfl : y = x := by simpa using hy
    exact go (by decide) hx
end
/-- As mains. -/
def mdw (nd hd : Int) (pn wn : Nat) (ps ws : List Int) (qs : List (Value × List Int)) : Mn.Mains := ⟨nd, hd, pn, fun j => ps.getD j 0, qs.length, fun i => (qs.getD i (.slice none 0 0, [])).2.length, fun i k => (qs.getD i (.slice none 0 0, [])).2.getD k 0, wn, fun j => ws.getD j 0⟩
theorem md_at {nd hd : Int} {B pn wn pk lk wk : Nat} {pa la wa : Option Addr} {ps ws : List Int} {qs : List (Value × List Int)} {W : World} (po : W.ownsRow B 36 5 (.slice pa pn pk) pn (jvs ps)) (wo : W.ownsRow B 2 1 (.slice wa wn wk) wn (jvs ws)) (lo : W.ownsRow B 25 1 (.slice la qs.length lk) qs.length (qs.map Prod.fst)) (li : ∀ x, x ∈ qs → OwnJ B x.1 x.2 W) : MnAt (mdw nd hd pn wn ps ws qs) pa la wa W := by
  have hq : ∀ k, (hk : k < qs.length) → qs.getD k (.slice none 0 0, []) = qs[k] := fun k hk => by
    rw [List.getD_eq_getElem?_getD, List.getElem?_eq_getElem hk]; rfl
  refine ⟨?_, ?_, ?_⟩
  · obtain ⟨a, c, e, h1, _⟩ := md_isat po
    cases e
    exact h1
  · show LsAt la qs.length (fun i => (qs.getD i (.slice none 0 0, [])).2.length) (fun i k => (qs.getD i (.slice none 0 0, [])).2.getD k 0) W
    rcases lo.2 with ⟨e1, e2⟩ | ⟨g, cap, cur, e1, _⟩
    · exact Or.inl e2
    · injection e1 with e1a e1b e1c
      subst e1a
      refine Or.inr ⟨g, rfl, fun k hk => ?_⟩
      obtain ⟨a, c, e3, e4⟩ := (li _ (List.getElem_mem hk)).at_
      have := lo.cells (show Value.ownBlock (.slice (some ⟨g, 0, none⟩) qs.length lk) = some g from rfl) k qs[k].1 (by rw [List.getElem?_map, List.getElem?_eq_getElem hk]; rfl)
      rw [Addr.add_lit, Nat.zero_add, e3] at this
      refine ⟨a, c, ?_, ?_⟩
      · show _ = some (Value.slice a (qs.getD k _).2.length c)
        rw [hq k hk]; exact this
      · show IsAt a (qs.getD k _).2.length (fun i => (qs.getD k _).2.getD i 0) W
        rw [hq k hk]; exact e4
  · obtain ⟨a, c, e, h1, _⟩ := md_isat wo
    cases e
    rw [Nat.mul_one] at h1
    exact h1
/-- What is told of drawn mains: they stay, whatever else is drawn. -/
def MdEnd (w : World) (sb : Nat) (e : Ending) (V : World) : Prop := (∃ (m : Mn.Mains) (pa : Option Addr) (pk : Nat) (la : Option Addr) (lk : Nat) (wa : Option Addr) (wk : Nat), e = .returned (mnV m pa pk la lk wa wk) ∧ (∀ V' : World, (∀ k, w.heap.size < k → k < V.heap.size → V'.heap[k]? = V.heap[k]?) → MnAt m pa la wa V') ∧ m.pn ≤ 1000 ∧ m.ln ≤ 1000 ∧ m.wn ≤ 1000 ∧ ∀ i, i < m.ln → m.LN i ≤ 1000) ∧ Drew sb w V
/-- Mains at the end of their draw. -/
def MF (w : World) (sb R : Nat) (W : World) : Prop := ∃ (nd hd : Int) (pv lv wv : Value) (pn wn : Nat) (ps ws : List Int) (qs : List (Value × List Int)), MW w sb R pv lv wv pn wn ps ws qs W ∧ W.rowIs R 27 5 (rowN [.int .i64 nd, .int .i64 hd, pv, lv, wv]) ∧ pn ≤ 1000 ∧ wn ≤ 1000 ∧ qs.length ≤ 1000 ∧ ∀ x, x ∈ qs → x.2.length ≤ 1000
theorem MW.told {w : World} {sb R : Nat} {nd hd : Int} {pn wn pk lk wk : Nat} {pa la wa : Option Addr} {ps ws : List Int} {qs : List (Value × List Int)} {W V : World} (h : MW w sb R (.slice pa pn pk) (.slice la qs.length lk) (.slice wa wn wk) pn wn ps ws qs W) (hV : Drew sb w V) (hk : ∀ k, w.heap.size < k → V.heap[k]? = W.heap[k]?) (h1 : pn ≤ 1000) (h2 : wn ≤ 1000) (h3 : qs.length ≤ 1000) (h4 : ∀ x, x ∈ qs → x.2.length ≤ 1000) : MdEnd w sb (.returned (.agg #[.int .i64 nd, .int .i64 hd, .slice pa pn pk, .slice la qs.length lk, .slice wa wn wk])) V := by
  refine ⟨⟨mdw nd hd pn wn ps ws qs, pa, pk, la, lk, wa, wk, rfl, fun V' hc => ?_, h1, h3, h2, fun i hi => ?_⟩, hV⟩
  · have go : ∀ {T : TypeId} {s n : Nat} {v : Value} {xs : List Value}, T ≠ 27 → W.ownsRow w.heap.size T s v n xs → V'.ownsRow w.heap.size T s v n xs := fun hT ho => by
      have ne : ∀ k, Value.ownBlock _ = some k → w.heap.size < k := fun k e => by
        have h1 := (World.ownsRow.lt ho k e).1
        have h2 := lpown_rne ho h.res hT
        have : k ≠ w.heap.size := fun e2 => h2 (by rw [e, e2])
        omega
      have hv := lpown_block ho (fun k e _ => hk k (ne k e))
      exact lpown_block hv (fun k e hl => hc k (ne k e) hl)
    exact md_at (go (by decide) h.po) (go (by decide) h.wo) (go (by decide) h.lo) (fun x hx => go (by decide) (h.li x hx))
  · show (qs.getD i _).2.length ≤ 1000
    have hi' : i < qs.length := hi
    rw [List.getD_eq_getElem?_getD, List.getElem?_eq_getElem hi']
    exact h4 _ (List.getElem_mem hi')
end Go.Proofs.YtfgmalnkpgloiaaGreatDoor
namespace Go.Proofs.YtfgmalnkpgloiaaGreatDoor
open Go Go.RowKit Go.Deep

set_option maxRecDepth 100000 in
set_option maxHeartbeats 32000000 in
theorem reg15 {w : World} (sb R : Nat) (nd hd : Int) (i pm : Nat) (x : Int) (a9 : Option Addr) (c9 : Nat) (ps1 : List Int) (x1 x2 x4 x6 x8 x9 x10 x11 x12 x13 x14 x15 x16 x17 x18 x19 x20 x21 x22 x23 x24 x25 x26 x27 x28 x29 x30 x31 x32 x33 x34 x35 x36 x37 x38 x39 x40 x41 x42 x43 x44 x45 x46 x47 x48 x49 x50 x51 x52 x53 x54 x55 x56 x57 x58 x59 x60 x61 x62 x63 x64 x65 x66 x67 x68 x69 x70 x71 x72 x73 x74 x75 x76 x77 x78 x79 x80 x81 x82 x83 x84 x85 x86 x87 x88 x89 x90 x91 x92 x93 x94 x95 x96 x97 x98 x99 x100 x101 x102 x103 x104 x105 x106 x107 x108 x109 x110 x111 x112 x113 x114 x115 x116 x117 x118 x119 x120 x121 x122 x123 x124 x125 x126 x127 x128 x129 x130 x131 x132 x133 x134 x135 x136 x137 x138 x139 x140 x141 x142 x143 x144 x145 x146 x147 x148 x149 x150 x151 x152 x153 x154 x155 x156 x157 x158 x159 x160 x161 x162 : Value) (ds : _) (Q : Exit → Act → World → Prop) (W0 : World)
    (HM : Hid (MM w sb R (.slice a9 pm c9) (.slice none 0 0) (.slice none 0 0) pm 0 ps1 [] [] W0)) (HR : Hid (W0.rowIs R 27 5 (rowN [.int .i64 nd, .int .i64 hd, (.slice a9 pm c9), .slice none 0 0, .slice none 0 0]))) (HPH : Hid (PH i pm ps1)) (hpm1 : pm + 1 ≤ 2 * i) (hi12 : i ≤ 12) (x0 : 0 ≤ x) (hxi : x < (i : Int)) (hP : ∀ c (a : Act) o v w, Q (.panic c) (a.put o v) w → Q (.panic c) a w)
    (hQ : ∀ (y73 y74 y75 y76 y77 y78 y79 y80 y81 y82 y83 y84 y85 y86 y87 y88 y89 : Value) (WZ : World), Hid (MX w sb R nd hd i (pm + 1) WZ) → Q .normal { tmps := #[(.pointer (some ⟨sb, 0, none⟩)), x1, x2, (.pointer (some ⟨R, 0, none⟩)), x4, (.int .i64 i), x6, (.int .i64 x), x8, x9, x10, x11, x12, x13, x14, x15, x16, x17, x18, x19, x20, x21, x22, x23, x24, x25, x26, x27, x28, x29, x30, x31, x32, x33, x34, x35, x36, x37, x38, x39, x40, x41, x42, x43, x44, x45, x46, x47, x48, x49, x50, x51, x52, x53, x54, x55, x56, x57, x58, x59, x60, x61, x62, x63, x64, x65, x66, x67, x68, x69, x70, x71, x72, y73, y74, y75, y76, y77, y78, y79, y80, y81, y82, y83, y84, y85, y86, y87, y88, y89, x90, x91, x92, x93, x94, x95, x96, x97, x98, x99, x100, x101, x102, x103, x104, x105, x106, x107, x108, x109, x110, x111, x112, x113, x114, x115, x116, x117, x118, x119, x120, x121, x122, x123, x124, x125, x126, x127, x128, x129, x130, x131, x132, x133, x134, x135, x136, x137, x138, x139, x140, x141, x142, x143, x144, x145, x146, x147, x148, x149, x150, x151, x152, x153, x154, x155, x156, x157, x158, x159, x160, x161, x162], defers := ds } WZ) :
    (Code.region 15 #[{ dst := some 73, op := Op.fieldAddr 27 (Operand.tmp 3) 2, type := 0, pos := "l08_mains.go:298", after := #[], guard := none }, { dst := some 74, op := Op.load 23 (Operand.tmp 73), type := 23, pos := "l08_mains.go:298", after := #[{ on := 0, ground := Ground.data }], guard := none }, { dst := some 75, op := Op.buildSlice 25 6 #[(0, Operand.const (Value.int IntKind.i64 1)), (1, Operand.const (Value.int IntKind.i64 1)), (2, Operand.const (Value.int IntKind.i64 4)), (3, Operand.const (Value.int IntKind.i64 3)), (4, Operand.const (Value.int IntKind.i64 6)), (5, Operand.const (Value.int IntKind.i64 5))], type := 25, pos := "l08_mains.go:298", after := #[], guard := none }, { dst := some 76, op := Op.move (Operand.tmp 0), type := 55, pos := "l08_mains.go:298", after := #[], guard := none }, { dst := some 77, op := Op.call { callee := Callee.value (Operand.func 31), args := #[Operand.tmp 76, Operand.const (Value.int IntKind.i64 6)], argTypes := #[55, 2] }, type := 2, pos := "l08_mains.go:298", after := #[{ on := 3, ground := Ground.data }], guard := none }, { dst := some 78, op := Op.indexAddr 25 (Operand.tmp 75) (Operand.tmp 77), type := 0, pos := "l08_mains.go:298", after := #[{ on := 2, ground := Ground.data }, { on := 4, ground := Ground.data }], guard := none }, { dst := some 79, op := Op.load 2 (Operand.tmp 78), type := 2, pos := "l08_mains.go:298", after := #[{ on := 5, ground := Ground.data }], guard := none }, { dst := some 80, op := Op.move (Operand.tmp 7), type := 2, pos := "l08_mains.go:298", after := #[], guard := none }, { dst := some 81, op := Op.move (Operand.tmp 5), type := 2, pos := "l08_mains.go:298", after := #[], guard := none }, { dst := some 82, op := Op.move (Operand.tmp 0), type := 55, pos := "l08_mains.go:298", after := #[], guard := none }, { dst := some 83, op := Op.call { callee := Callee.value (Operand.func 31), args := #[Operand.tmp 82, Operand.const (Value.int IntKind.i64 6)], argTypes := #[55, 2] }, type := 2, pos := "l08_mains.go:298", after := #[{ on := 9, ground := Ground.data }, { on := 4, ground := Ground.chain }], guard := none }, { dst := some 84, op := Op.move (Operand.tmp 0), type := 55, pos := "l08_mains.go:298", after := #[], guard := none }, { dst := some 85, op := Op.call { callee := Callee.value (Operand.func 31), args := #[Operand.tmp 84, Operand.const (Value.int IntKind.i64 40)], argTypes := #[55, 2] }, type := 2, pos := "l08_mains.go:298", after := #[{ on := 11, ground := Ground.data }, { on := 10, ground := Ground.chain }], guard := none }, { dst := some 86, op := Op.build 36 #[(0, Operand.tmp 79), (1, Operand.tmp 80), (2, Operand.tmp 81), (3, Operand.tmp 83), (4, Operand.tmp 85)], type := 36, pos := "l08_mains.go:298", after := #[{ on := 6, ground := Ground.data }, { on := 7, ground := Ground.data }, { on := 8, ground := Ground.data }, { on := 10, ground := Ground.data }, { on := 12, ground := Ground.data }], guard := none }, { dst := some 87, op := Op.buildSlice 23 1 #[(0, Operand.tmp 86)], type := 23, pos := "l08_mains.go:298", after := #[{ on := 13, ground := Ground.data }], guard := none }, { dst := some 88, op := Op.call { callee := Callee.builtin Builtin.append, args := #[Operand.tmp 74, Operand.tmp 87], argTypes := #[23, 23] }, type := 23, pos := "l08_mains.go:298", after := #[{ on := 1, ground := Ground.data }, { on := 14, ground := Ground.data }, { on := 12, ground := Ground.chain }], guard := none }, { dst := some 89, op := Op.fieldAddr 27 (Operand.tmp 3) 2, type := 0, pos := "l08_mains.go:298", after := #[{ on := 0, ground := Ground.phase }, { on := 1, ground := Ground.phase }, { on := 2, ground := Ground.phase }, { on := 3, ground := Ground.phase }, { on := 4, ground := Ground.phase }, { on := 5, ground := Ground.phase }, { on := 6, ground := Ground.phase }, { on := 7, ground := Ground.phase }, { on := 8, ground := Ground.phase }, { on := 9, ground := Ground.phase }, { on := 10, ground := Ground.phase }, { on := 11, ground := Ground.phase }, { on := 12, ground := Ground.phase }, { on := 13, ground := Ground.phase }, { on := 14, ground := Ground.phase }, { on := 15, ground := Ground.phase }], guard := none }, { dst := none, op := Op.store 23 (Operand.tmp 89) (Operand.tmp 88), type := 0, pos := "l08_mains.go:298", after := #[{ on := 16, ground := Ground.data }, { on := 15, ground := Ground.data }, { on := 15, ground := Ground.chain }, { on := 0, ground := Ground.phase }, { on := 1, ground := Ground.phase }, { on := 2, ground := Ground.phase }, { on := 3, ground := Ground.phase }, { on := 4, ground := Ground.phase }, { on := 5, ground := Ground.phase }, { on := 6, ground := Ground.phase }, { on := 7, ground := Ground.phase }, { on := 8, ground := Ground.phase }, { on := 9, ground := Ground.phase }, { on := 10, ground := Ground.phase }, { on := 11, ground := Ground.phase }, { on := 12, ground := Ground.phase }, { on := 13, ground := Ground.phase }, { on := 14, ground := Ground.phase }, { on := 15, ground := Ground.phase }], guard := none }] true).wp Tryz.prog Q { tmps := #[(.pointer (some ⟨sb, 0, none⟩)), x1, x2, (.pointer (some ⟨R, 0, none⟩)), x4, (.int .i64 i), x6, (.int .i64 x), x8, x9, x10, x11, x12, x13, x14, x15, x16, x17, x18, x19, x20, x21, x22, x23, x24, x25, x26, x27, x28, x29, x30, x31, x32, x33, x34, x35, x36, x37, x38, x39, x40, x41, x42, x43, x44, x45, x46, x47, x48, x49, x50, x51, x52, x53, x54, x55, x56, x57, x58, x59, x60, x61, x62, x63, x64, x65, x66, x67, x68, x69, x70, x71, x72, x73, x74, x75, x76, x77, x78, x79, x80, x81, x82, x83, x84, x85, x86, x87, x88, x89, x90, x91, x92, x93, x94, x95, x96, x97, x98, x99, x100, x101, x102, x103, x104, x105, x106, x107, x108, x109, x110, x111, x112, x113, x114, x115, x116, x117, x118, x119, x120, x121, x122, x123, x124, x125, x126, x127, x128, x129, x130, x131, x132, x133, x134, x135, x136, x137, x138, x139, x140, x141, x142, x143, x144, x145, x146, x147, x148, x149, x150, x151, x152, x153, x154, x155, x156, x157, x158, x159, x160, x161, x162], defers := ds } W0 := by
  obtain ⟨j0, hj0, hj1, hj2, hj3⟩ := info_parts pinfo
  refine region_L (fun V => V.rowIs R 27 5 (rowN [.int .i64 nd, .int .i64 hd, (.slice a9 pm c9), .slice none 0 0, .slice none 0 0])) 17 (by kernel_rfl) (nrow_below HR.out (Below.refl _ _).drew) (fun hHeld => ?_)
  obtain ⟨Z, hZ⟩ : ∃ Z, Z = W0.drew := ⟨_, rfl⟩
  replace HM := Lib.hid (HM.out.below (Below.refl _ _).drew)
  replace HR := Lib.hid (nrow_below HR.out (Below.refl _ _).drew)
  rw [← hZ] at hHeld HM HR ⊢
  clear hZ
  refine takeL_do (i := 0) (v := (.pointer (some ⟨R, 2, none⟩))) rfl (by kernel_rfl) (by kernel_rfl) (by kernel_rfl) (by kernel_rfl) (fun _ _ _ h => hP _ _ _ _ _ h) (by rfl) ?_ (by assumption) ?_
  · intro w hSw
    skip
    go_simp
  simp only [Act.put, List.setIfInBounds_toArray, List.set_cons_zero, List.set_cons_succ]
  refine takeL_do (i := 1) (v := (.slice a9 pm c9)) rfl (by kernel_rfl) (by kernel_rfl) (by kernel_rfl) (by kernel_rfl) (fun _ _ _ h => hP _ _ _ _ _ h) (by rfl) ?_ (by assumption) ?_
  · intro w hSw
    obtain ⟨⟨x0, x1, x2, x3, x4⟩, _⟩ := rowN5 hSw
    go_simp
  simp only [Act.put, List.setIfInBounds_toArray, List.set_cons_zero, List.set_cons_succ]
  refine takeL_do (i := 3) (v := (.pointer (some ⟨sb, 0, none⟩))) rfl (by kernel_rfl) (by kernel_rfl) (by kernel_rfl) (by kernel_rfl) (fun _ _ _ h => hP _ _ _ _ _ h) (by rfl) ?_ (by assumption) ?_
  · intro w hSw
    skip
    go_simp
  simp only [Act.put, List.setIfInBounds_toArray, List.set_cons_zero, List.set_cons_succ]
  refine takeL_do (i := 7) (v := (.int .i64 x)) rfl (by kernel_rfl) (by kernel_rfl) (by kernel_rfl) (by kernel_rfl) (fun _ _ _ h => hP _ _ _ _ _ h) (by rfl) ?_ (by assumption) ?_
  · intro w hSw
    skip
    go_simp
  simp only [Act.put, List.setIfInBounds_toArray, List.set_cons_zero, List.set_cons_succ]
  refine takeL_do (i := 8) (v := (.int .i64 i)) rfl (by kernel_rfl) (by kernel_rfl) (by kernel_rfl) (by kernel_rfl) (fun _ _ _ h => hP _ _ _ _ _ h) (by rfl) ?_ (by assumption) ?_
  · intro w hSw
    skip
    go_simp
  simp only [Act.put, List.setIfInBounds_toArray, List.set_cons_zero, List.set_cons_succ]
  refine takeL_do (i := 9) (v := (.pointer (some ⟨sb, 0, none⟩))) rfl (by kernel_rfl) (by kernel_rfl) (by kernel_rfl) (by kernel_rfl) (fun _ _ _ h => hP _ _ _ _ _ h) (by rfl) ?_ (by assumption) ?_
  · intro w hSw
    skip
    go_simp
  simp only [Act.put, List.setIfInBounds_toArray, List.set_cons_zero, List.set_cons_succ]
  refine takeL_do (i := 11) (v := (.pointer (some ⟨sb, 0, none⟩))) rfl (by kernel_rfl) (by kernel_rfl) (by kernel_rfl) (by kernel_rfl) (fun _ _ _ h => hP _ _ _ _ _ h) (by rfl) ?_ (by assumption) ?_
  · intro w hSw
    skip
    go_simp
  simp only [Act.put, List.setIfInBounds_toArray, List.set_cons_zero, List.set_cons_succ]
  refine L_ready (rs := [2, 4]) (by kernel_rfl) (by simp) (AllL.cons (i := 2) rfl (fun K2 hK => ?_) (AllL.cons (i := 4) rfl (fun K2 hK => ?_) AllL.nil))
  · obtain ⟨Z1, hZ1⟩ : ∃ Z1, Z1 = Z.alloc (.cells #[.int .i64 1, .int .i64 1, .int .i64 4, .int .i64 3, .int .i64 6, .int .i64 5] 2) := ⟨_, rfl⟩
    have hb : Below Z.heap.size Z Z1 := by rw [hZ1]; exact nbel_alloc _ _
    obtain ⟨gq, hgq⟩ : ∃ gq, gq = Z.heap.size := ⟨_, rfl⟩
    have HQ : Hid (Z1.rowIs gq 2 6 (rowN [.int .i64 1, .int .i64 1, .int .i64 4, .int .i64 3, .int .i64 6, .int .i64 5])) := by show World.rowIs _ _ _ _ _; rw [hZ1, hgq]; exact rowN_alloc _ _ _
    have HQL : Hid (w.heap.size ≤ gq) := by show _ ≤ _; rw [hgq]; exact HM.out.src.2.size
    replace HM := Lib.hid (HM.out.below hb)
    replace HR := Lib.hid (nrow_below HR.out hb)
    go_simp
    rw [← hZ1, ← hgq]
    refine hK.out _ _ HR.out (fun hHeld2 => ?_)
    clear hK hHeld
    have hHeld := hHeld2
    clear hHeld2
    clear hb hZ1 hgq
    refine takeL_call (i := 4) rfl (by kernel_rfl) (fun K2 hK => ?_)
    go_simp
    refine (n_any sb 6 _ HM.out.src.1 (by omega)).mono ?_
    rintro e Z2 ⟨⟨z, rfl, z0, z1, _⟩, hD⟩
    replace HM := Lib.hid (HM.out.draw hD)
    replace HR := Lib.hid (md_chg HR.out (by have := HM.out.rl; have := HM.out.sbl; omega) hD.2)
    replace HQ := Lib.hid (md_chg HQ.out (by have := HQL.out; have := HM.out.sbl; omega) hD.2)
    have zb : 0 ≤ z ∧ z < 6 := by have := z1 (by omega); omega
    clear hD z0 z1
    go_wp2_with fail
    refine hK.out _ _ HR.out (fun hHeld2 => ?_)
    clear hK hHeld
    have hHeld := hHeld2
    clear hHeld2
    obtain ⟨KL, hKL⟩ : ∃ KL : Int, rowN [.int .i64 1, .int .i64 1, .int .i64 4, .int .i64 3, .int .i64 6, .int .i64 5] z.toNat = .int .i64 KL := by
      have h6 : z.toNat = 0 ∨ z.toNat = 1 ∨ z.toNat = 2 ∨ z.toNat = 3 ∨ z.toNat = 4 ∨ z.toNat = 5 := by omega
      rcases h6 with h | h | h | h | h | h <;> rw [h] <;> exact ⟨_, rfl⟩
    have HKL := Lib.hid hKL
    clear hKL
    refine L_strong (S' := fun V => V.rowIs R 27 5 (rowN [.int .i64 nd, .int .i64 hd, (.slice a9 pm c9), .slice none 0 0, .slice none 0 0]) ∧ V.rowIs gq 2 6 (rowN [.int .i64 1, .int .i64 1, .int .i64 4, .int .i64 3, .int .i64 6, .int .i64 5])) (fun _ h => h.1) _ _ _ _ ?_
    replace hHeld := And.intro HR.out HQ.out
    refine takeL_do (i := 5) (v := (.pointer (some ⟨gq, z.toNat, none⟩))) rfl (by kernel_rfl) (by kernel_rfl) (by kernel_rfl) (by kernel_rfl) (fun _ _ _ h => hP _ _ _ _ _ h) (by rfl) ?_ (by assumption) ?_
    · intro w hSw
      skip
      go_simp
      try (intro hq; exfalso; omega)
    simp only [Act.put, List.setIfInBounds_toArray, List.set_cons_zero, List.set_cons_succ]
    refine takeL_do (i := 6) (v := (.int .i64 KL)) rfl (by kernel_rfl) (by kernel_rfl) (by kernel_rfl) (by kernel_rfl) (fun _ _ _ h => hP _ _ _ _ _ h) (by rfl) ?_ (by assumption) ?_
    · intro w hSw
      have c := hSw.2.cell (i := z.toNat) (by omega)
      rw [HKL.out] at c
      go_simp
    simp only [Act.put, List.setIfInBounds_toArray, List.set_cons_zero, List.set_cons_succ]
    refine takeL_call (i := 10) rfl (by kernel_rfl) (fun K2 hK => ?_)
    go_simp
    refine (n_any sb 6 _ HM.out.src.1 (by omega)).mono ?_
    rintro e Z3 ⟨⟨d2, rfl, d20, d21, _⟩, hD⟩
    replace HM := Lib.hid (HM.out.draw hD)
    replace HR := Lib.hid (md_chg HR.out (by have := HM.out.rl; have := HM.out.sbl; omega) hD.2)
    replace HQ := Lib.hid (md_chg HQ.out (by have := HQL.out; have := HM.out.sbl; omega) hD.2)
    clear hD d20 d21
    go_wp2_with fail
    refine hK.out _ _ ⟨HR.out, HQ.out⟩ (fun hHeld2 => ?_)
    clear hK hHeld
    have hHeld := hHeld2
    clear hHeld2
    refine takeL_call (i := 12) rfl (by kernel_rfl) (fun K2 hK => ?_)
    go_simp
    refine (n_any sb 40 _ HM.out.src.1 (by omega)).mono ?_
    rintro e Z4 ⟨⟨q2, rfl, q20, q21, _⟩, hD⟩
    replace HM := Lib.hid (HM.out.draw hD)
    replace HR := Lib.hid (md_chg HR.out (by have := HM.out.rl; have := HM.out.sbl; omega) hD.2)
    replace HQ := Lib.hid (md_chg HQ.out (by have := HQL.out; have := HM.out.sbl; omega) hD.2)
    clear hD q20 q21
    go_wp2_with fail
    refine hK.out _ _ ⟨HR.out, HQ.out⟩ (fun hHeld2 => ?_)
    clear hK hHeld
    have hHeld := hHeld2
    clear hHeld2
    refine takeL_do (i := 13) (v := (.agg #[.int .i64 KL, .int .i64 x, .int .i64 i, .int .i64 d2, .int .i64 q2])) rfl (by kernel_rfl) (by kernel_rfl) (by kernel_rfl) (by kernel_rfl) (fun _ _ _ h => hP _ _ _ _ _ h) (by rfl) ?_ (by assumption) ?_
    · intro w hSw
      skip
      go_simp
    simp only [Act.put, List.setIfInBounds_toArray, List.set_cons_zero, List.set_cons_succ]
    refine takeL_call (i := 14) rfl (by kernel_rfl) (fun K2 hK => ?_)
    obtain ⟨Z5, hZ5⟩ : ∃ Z5, Z5 = Z4.alloc (.cells #[.int .i64 KL, .int .i64 x, .int .i64 i, .int .i64 d2, .int .i64 q2] 36) := ⟨_, rfl⟩
    have hb : Below Z4.heap.size Z4 Z5 := by rw [hZ5]; exact nbel_alloc _ _
    obtain ⟨gs, hgs⟩ : ∃ gs, gs = Z4.heap.size := ⟨_, rfl⟩
    have HL : Hid (∀ j u, [.int .i64 KL, .int .i64 x, .int .i64 i, .int .i64 d2, .int .i64 q2][j]? = some u → Z5.cell? ((⟨gs, 0, none⟩ : Addr).add j) = some u) := by
      rw [hZ5, hgs]; exact cells5 _ _ _ _ _ _ _
    replace HM := Lib.hid (HM.out.below hb)
    replace HR := Lib.hid (nrow_below HR.out hb)
    replace HQ := Lib.hid (nrow_below HQ.out hb)
    go_simp
    rw [← hZ5, ← hgs]
    refine hK.out _ _ ⟨HR.out, HQ.out⟩ (fun hHeld2 => ?_)
    clear hK hHeld
    have hHeld := hHeld2
    clear hHeld2
    clear hb hZ5 hgs
    refine takeL_call (i := 15) rfl (by kernel_rfl) (fun K2 hK => ?_)
    refine mdap rfl (.tmp 74) (.tmp 87) 23 rfl w.heap.size 36 j0 (.agg #[.int .i64 0, .int .i64 0, .int .i64 0, .int .i64 0, .int .i64 0]) 5 40 Tryz.underlying23 hj0 hj1 hj2 hj3 rfl (by decide) _ pm _ rfl HM.out.po ⟨gs, 0, none⟩ 1 1 [.int .i64 KL, .int .i64 x, .int .i64 i, .int .i64 d2, .int .i64 q2] rfl rfl HL.out ?_ (by unfold maxLen; omega) (by omega) HM.out.src.2.size ?_
    · intro u hu; simp at hu; rcases hu with rfl | rfl | rfl | rfl | rfl <;> rfl
    intro v' Z6 hown hgrow
    obtain ⟨a8, c8, rfl⟩ := lpown_shape hown
    replace HR := Lib.hid (md_row HR.out HM.out.po (by decide) hgrow)
    replace HQ := Lib.hid (md_row HQ.out HM.out.po (by decide) hgrow)
    replace HM := Lib.hid (HM.out.pipes (zs := [(KL : Int), (x : Int), (i : Int), (d2 : Int), (q2 : Int)]) hgrow hown)
    refine hK.out _ _ ⟨HR.out, HQ.out⟩ (fun hHeld2 => ?_)
    clear hK hHeld hown hgrow HL
    have hHeld := hHeld2
    clear hHeld2
    simp only [Act.put, List.setIfInBounds_toArray, List.set_cons_zero, List.set_cons_succ]
    refine takeL_do (i := 16) (v := (.pointer (some ⟨R, 2, none⟩))) rfl (by kernel_rfl) (by kernel_rfl) (by kernel_rfl) (by kernel_rfl) (fun _ _ _ h => hP _ _ _ _ _ h) (by rfl) ?_ (by assumption) ?_
    · intro w hSw
      skip
      go_simp
    simp only [Act.put, List.setIfInBounds_toArray, List.set_cons_zero, List.set_cons_succ]
    obtain ⟨⟨o0, o1, o2, o3, o4⟩, z0, z1, z2, z3, z4⟩ := rowN5 HR.out
    have l0 := HR.out.lt
    obtain ⟨WZ, hWZ⟩ : ∃ WZ, WZ = Z6.setCell ⟨R, 2, none⟩ (.slice a8 (pm + 1) c8) := ⟨_, rfl⟩
    have HX : Hid (MX w sb R nd hd i (pm + 1) WZ) := by
      refine ⟨.slice a8 (pm + 1) c8, _, HPH.out.two (KL) (x) (d2) (q2) (by omega) (by omega), by omega, ?_, ?_⟩
      · rw [hWZ]; exact HM.out.set HR.out (i := 2) (.slice a8 (pm + 1) c8)
      · rw [hWZ]; exact rowN_put HR.out 2 _ (by simp)
    have HWZ := Lib.hid hWZ
    clear hWZ
    refine takeL_last rfl (by kernel_rfl) (by kernel_rfl) (fun K2 hK => ?_)
    go_simp
    rw [← HWZ.out]
    refine hK.out _ _ ?_
    clear hK hHeld HWZ o0 o1 o2 o3 o4 z0 z1 z2 z3 z4 l0 HM HR
    exact hQ _ _ _ _ _ _ _ _ _ _ _ _ _ _ _ _ _ WZ HX
  · go_simp
    refine (n_any sb 6 _ HM.out.src.1 (by omega)).mono ?_
    rintro e Z7 ⟨⟨z, rfl, z0, z1, _⟩, hD⟩
    replace HM := Lib.hid (HM.out.draw hD)
    replace HR := Lib.hid (md_chg HR.out (by have := HM.out.rl; have := HM.out.sbl; omega) hD.2)
    have zb : 0 ≤ z ∧ z < 6 := by have := z1 (by omega); omega
    clear hD z0 z1
    go_wp2_with fail
    refine hK.out _ _ HR.out (fun hHeld2 => ?_)
    clear hK hHeld
    have hHeld := hHeld2
    clear hHeld2
    refine L_ready (rs := [2, 10]) (by kernel_rfl) (by simp) (AllL.cons (i := 2) rfl (fun K2 hK => ?_) (AllL.cons (i := 10) rfl (fun K2 hK => ?_) AllL.nil))
    · obtain ⟨Z8, hZ8⟩ : ∃ Z8, Z8 = Z7.alloc (.cells #[.int .i64 1, .int .i64 1, .int .i64 4, .int .i64 3, .int .i64 6, .int .i64 5] 2) := ⟨_, rfl⟩
      have hb : Below Z7.heap.size Z7 Z8 := by rw [hZ8]; exact nbel_alloc _ _
      obtain ⟨gq, hgq⟩ : ∃ gq, gq = Z7.heap.size := ⟨_, rfl⟩
      have HQ : Hid (Z8.rowIs gq 2 6 (rowN [.int .i64 1, .int .i64 1, .int .i64 4, .int .i64 3, .int .i64 6, .int .i64 5])) := by show World.rowIs _ _ _ _ _; rw [hZ8, hgq]; exact rowN_alloc _ _ _
      have HQL : Hid (w.heap.size ≤ gq) := by show _ ≤ _; rw [hgq]; exact HM.out.src.2.size
      replace HM := Lib.hid (HM.out.below hb)
      replace HR := Lib.hid (nrow_below HR.out hb)
      go_simp
      rw [← hZ8, ← hgq]
      refine hK.out _ _ HR.out (fun hHeld2 => ?_)
      clear hK hHeld
      have hHeld := hHeld2
      clear hHeld2
      clear hb hZ8 hgq
      obtain ⟨KL, hKL⟩ : ∃ KL : Int, rowN [.int .i64 1, .int .i64 1, .int .i64 4, .int .i64 3, .int .i64 6, .int .i64 5] z.toNat = .int .i64 KL := by
        have h6 : z.toNat = 0 ∨ z.toNat = 1 ∨ z.toNat = 2 ∨ z.toNat = 3 ∨ z.toNat = 4 ∨ z.toNat = 5 := by omega
        rcases h6 with h | h | h | h | h | h <;> rw [h] <;> exact ⟨_, rfl⟩
      have HKL := Lib.hid hKL
      clear hKL
      refine L_strong (S' := fun V => V.rowIs R 27 5 (rowN [.int .i64 nd, .int .i64 hd, (.slice a9 pm c9), .slice none 0 0, .slice none 0 0]) ∧ V.rowIs gq 2 6 (rowN [.int .i64 1, .int .i64 1, .int .i64 4, .int .i64 3, .int .i64 6, .int .i64 5])) (fun _ h => h.1) _ _ _ _ ?_
      replace hHeld := And.intro HR.out HQ.out
      refine takeL_do (i := 5) (v := (.pointer (some ⟨gq, z.toNat, none⟩))) rfl (by kernel_rfl) (by kernel_rfl) (by kernel_rfl) (by kernel_rfl) (fun _ _ _ h => hP _ _ _ _ _ h) (by rfl) ?_ (by assumption) ?_
      · intro w hSw
        skip
        go_simp
        try (intro hq; exfalso; omega)
      simp only [Act.put, List.setIfInBounds_toArray, List.set_cons_zero, List.set_cons_succ]
      refine takeL_do (i := 6) (v := (.int .i64 KL)) rfl (by kernel_rfl) (by kernel_rfl) (by kernel_rfl) (by kernel_rfl) (fun _ _ _ h => hP _ _ _ _ _ h) (by rfl) ?_ (by assumption) ?_
      · intro w hSw
        have c := hSw.2.cell (i := z.toNat) (by omega)
        rw [HKL.out] at c
        go_simp
      simp only [Act.put, List.setIfInBounds_toArray, List.set_cons_zero, List.set_cons_succ]
      refine takeL_call (i := 10) rfl (by kernel_rfl) (fun K2 hK => ?_)
      go_simp
      refine (n_any sb 6 _ HM.out.src.1 (by omega)).mono ?_
      rintro e Z9 ⟨⟨d2, rfl, d20, d21, _⟩, hD⟩
      replace HM := Lib.hid (HM.out.draw hD)
      replace HR := Lib.hid (md_chg HR.out (by have := HM.out.rl; have := HM.out.sbl; omega) hD.2)
      replace HQ := Lib.hid (md_chg HQ.out (by have := HQL.out; have := HM.out.sbl; omega) hD.2)
      clear hD d20 d21
      go_wp2_with fail
      refine hK.out _ _ ⟨HR.out, HQ.out⟩ (fun hHeld2 => ?_)
      clear hK hHeld
      have hHeld := hHeld2
      clear hHeld2
      refine takeL_call (i := 12) rfl (by kernel_rfl) (fun K2 hK => ?_)
      go_simp
      refine (n_any sb 40 _ HM.out.src.1 (by omega)).mono ?_
      rintro e Z10 ⟨⟨q2, rfl, q20, q21, _⟩, hD⟩
      replace HM := Lib.hid (HM.out.draw hD)
      replace HR := Lib.hid (md_chg HR.out (by have := HM.out.rl; have := HM.out.sbl; omega) hD.2)
      replace HQ := Lib.hid (md_chg HQ.out (by have := HQL.out; have := HM.out.sbl; omega) hD.2)
      clear hD q20 q21
      go_wp2_with fail
      refine hK.out _ _ ⟨HR.out, HQ.out⟩ (fun hHeld2 => ?_)
      clear hK hHeld
      have hHeld := hHeld2
      clear hHeld2
      refine takeL_do (i := 13) (v := (.agg #[.int .i64 KL, .int .i64 x, .int .i64 i, .int .i64 d2, .int .i64 q2])) rfl (by kernel_rfl) (by kernel_rfl) (by kernel_rfl) (by kernel_rfl) (fun _ _ _ h => hP _ _ _ _ _ h) (by rfl) ?_ (by assumption) ?_
      · intro w hSw
        skip
        go_simp
      simp only [Act.put, List.setIfInBounds_toArray, List.set_cons_zero, List.set_cons_succ]
      refine takeL_call (i := 14) rfl (by kernel_rfl) (fun K2 hK => ?_)
      obtain ⟨Z11, hZ11⟩ : ∃ Z11, Z11 = Z10.alloc (.cells #[.int .i64 KL, .int .i64 x, .int .i64 i, .int .i64 d2, .int .i64 q2] 36) := ⟨_, rfl⟩
      have hb : Below Z10.heap.size Z10 Z11 := by rw [hZ11]; exact nbel_alloc _ _
      obtain ⟨gs, hgs⟩ : ∃ gs, gs = Z10.heap.size := ⟨_, rfl⟩
      have HL : Hid (∀ j u, [.int .i64 KL, .int .i64 x, .int .i64 i, .int .i64 d2, .int .i64 q2][j]? = some u → Z11.cell? ((⟨gs, 0, none⟩ : Addr).add j) = some u) := by
        rw [hZ11, hgs]; exact cells5 _ _ _ _ _ _ _
      replace HM := Lib.hid (HM.out.below hb)
      replace HR := Lib.hid (nrow_below HR.out hb)
      replace HQ := Lib.hid (nrow_below HQ.out hb)
      go_simp
      rw [← hZ11, ← hgs]
      refine hK.out _ _ ⟨HR.out, HQ.out⟩ (fun hHeld2 => ?_)
      clear hK hHeld
      have hHeld := hHeld2
      clear hHeld2
      clear hb hZ11 hgs
      refine takeL_call (i := 15) rfl (by kernel_rfl) (fun K2 hK => ?_)
      refine mdap rfl (.tmp 74) (.tmp 87) 23 rfl w.heap.size 36 j0 (.agg #[.int .i64 0, .int .i64 0, .int .i64 0, .int .i64 0, .int .i64 0]) 5 40 Tryz.underlying23 hj0 hj1 hj2 hj3 rfl (by decide) _ pm _ rfl HM.out.po ⟨gs, 0, none⟩ 1 1 [.int .i64 KL, .int .i64 x, .int .i64 i, .int .i64 d2, .int .i64 q2] rfl rfl HL.out ?_ (by unfold maxLen; omega) (by omega) HM.out.src.2.size ?_
      · intro u hu; simp at hu; rcases hu with rfl | rfl | rfl | rfl | rfl <;> rfl
      intro v' Z12 hown hgrow
      obtain ⟨a8, c8, rfl⟩ := lpown_shape hown
      replace HR := Lib.hid (md_row HR.out HM.out.po (by decide) hgrow)
      replace HQ := Lib.hid (md_row HQ.out HM.out.po (by decide) hgrow)
      replace HM := Lib.hid (HM.out.pipes (zs := [(KL : Int), (x : Int), (i : Int), (d2 : Int), (q2 : Int)]) hgrow hown)
      refine hK.out _ _ ⟨HR.out, HQ.out⟩ (fun hHeld2 => ?_)
      clear hK hHeld hown hgrow HL
      have hHeld := hHeld2
      clear hHeld2
      simp only [Act.put, List.setIfInBounds_toArray, List.set_cons_zero, List.set_cons_succ]
      refine takeL_do (i := 16) (v := (.pointer (some ⟨R, 2, none⟩))) rfl (by kernel_rfl) (by kernel_rfl) (by kernel_rfl) (by kernel_rfl) (fun _ _ _ h => hP _ _ _ _ _ h) (by rfl) ?_ (by assumption) ?_
      · intro w hSw
        skip
        go_simp
      simp only [Act.put, List.setIfInBounds_toArray, List.set_cons_zero, List.set_cons_succ]
      obtain ⟨⟨o0, o1, o2, o3, o4⟩, z0, z1, z2, z3, z4⟩ := rowN5 HR.out
      have l0 := HR.out.lt
      obtain ⟨WZ, hWZ⟩ : ∃ WZ, WZ = Z12.setCell ⟨R, 2, none⟩ (.slice a8 (pm + 1) c8) := ⟨_, rfl⟩
      have HX : Hid (MX w sb R nd hd i (pm + 1) WZ) := by
        refine ⟨.slice a8 (pm + 1) c8, _, HPH.out.two (KL) (x) (d2) (q2) (by omega) (by omega), by omega, ?_, ?_⟩
        · rw [hWZ]; exact HM.out.set HR.out (i := 2) (.slice a8 (pm + 1) c8)
        · rw [hWZ]; exact rowN_put HR.out 2 _ (by simp)
      have HWZ := Lib.hid hWZ
      clear hWZ
      refine takeL_last rfl (by kernel_rfl) (by kernel_rfl) (fun K2 hK => ?_)
      go_simp
      rw [← HWZ.out]
      refine hK.out _ _ ?_
      clear hK hHeld HWZ o0 o1 o2 o3 o4 z0 z1 z2 z3 z4 l0 HM HR
      exact hQ _ _ _ _ _ _ _ _ _ _ _ _ _ _ _ _ _ WZ HX
    · go_simp
      refine (n_any sb 6 _ HM.out.src.1 (by omega)).mono ?_
      rintro e Z13 ⟨⟨d2, rfl, d20, d21, _⟩, hD⟩
      replace HM := Lib.hid (HM.out.draw hD)
      replace HR := Lib.hid (md_chg HR.out (by have := HM.out.rl; have := HM.out.sbl; omega) hD.2)
      clear hD d20 d21
      go_wp2_with fail
      refine hK.out _ _ HR.out (fun hHeld2 => ?_)
      clear hK hHeld
      have hHeld := hHeld2
      clear hHeld2
      refine L_ready (rs := [2, 12]) (by kernel_rfl) (by simp) (AllL.cons (i := 2) rfl (fun K2 hK => ?_) (AllL.cons (i := 12) rfl (fun K2 hK => ?_) AllL.nil))
      · obtain ⟨Z14, hZ14⟩ : ∃ Z14, Z14 = Z13.alloc (.cells #[.int .i64 1, .int .i64 1, .int .i64 4, .int .i64 3, .int .i64 6, .int .i64 5] 2) := ⟨_, rfl⟩
        have hb : Below Z13.heap.size Z13 Z14 := by rw [hZ14]; exact nbel_alloc _ _
        obtain ⟨gq, hgq⟩ : ∃ gq, gq = Z13.heap.size := ⟨_, rfl⟩
        have HQ : Hid (Z14.rowIs gq 2 6 (rowN [.int .i64 1, .int .i64 1, .int .i64 4, .int .i64 3, .int .i64 6, .int .i64 5])) := by show World.rowIs _ _ _ _ _; rw [hZ14, hgq]; exact rowN_alloc _ _ _
        have HQL : Hid (w.heap.size ≤ gq) := by show _ ≤ _; rw [hgq]; exact HM.out.src.2.size
        replace HM := Lib.hid (HM.out.below hb)
        replace HR := Lib.hid (nrow_below HR.out hb)
        go_simp
        rw [← hZ14, ← hgq]
        refine hK.out _ _ HR.out (fun hHeld2 => ?_)
        clear hK hHeld
        have hHeld := hHeld2
        clear hHeld2
        clear hb hZ14 hgq
        obtain ⟨KL, hKL⟩ : ∃ KL : Int, rowN [.int .i64 1, .int .i64 1, .int .i64 4, .int .i64 3, .int .i64 6, .int .i64 5] z.toNat = .int .i64 KL := by
          have h6 : z.toNat = 0 ∨ z.toNat = 1 ∨ z.toNat = 2 ∨ z.toNat = 3 ∨ z.toNat = 4 ∨ z.toNat = 5 := by omega
          rcases h6 with h | h | h | h | h | h <;> rw [h] <;> exact ⟨_, rfl⟩
        have HKL := Lib.hid hKL
        clear hKL
        refine L_strong (S' := fun V => V.rowIs R 27 5 (rowN [.int .i64 nd, .int .i64 hd, (.slice a9 pm c9), .slice none 0 0, .slice none 0 0]) ∧ V.rowIs gq 2 6 (rowN [.int .i64 1, .int .i64 1, .int .i64 4, .int .i64 3, .int .i64 6, .int .i64 5])) (fun _ h => h.1) _ _ _ _ ?_
        replace hHeld := And.intro HR.out HQ.out
        refine takeL_do (i := 5) (v := (.pointer (some ⟨gq, z.toNat, none⟩))) rfl (by kernel_rfl) (by kernel_rfl) (by kernel_rfl) (by kernel_rfl) (fun _ _ _ h => hP _ _ _ _ _ h) (by rfl) ?_ (by assumption) ?_
        · intro w hSw
          skip
          go_simp
          try (intro hq; exfalso; omega)
        simp only [Act.put, List.setIfInBounds_toArray, List.set_cons_zero, List.set_cons_succ]
        refine takeL_do (i := 6) (v := (.int .i64 KL)) rfl (by kernel_rfl) (by kernel_rfl) (by kernel_rfl) (by kernel_rfl) (fun _ _ _ h => hP _ _ _ _ _ h) (by rfl) ?_ (by assumption) ?_
        · intro w hSw
          have c := hSw.2.cell (i := z.toNat) (by omega)
          rw [HKL.out] at c
          go_simp
        simp only [Act.put, List.setIfInBounds_toArray, List.set_cons_zero, List.set_cons_succ]
        refine takeL_call (i := 12) rfl (by kernel_rfl) (fun K2 hK => ?_)
        go_simp
        refine (n_any sb 40 _ HM.out.src.1 (by omega)).mono ?_
        rintro e Z15 ⟨⟨q2, rfl, q20, q21, _⟩, hD⟩
        replace HM := Lib.hid (HM.out.draw hD)
        replace HR := Lib.hid (md_chg HR.out (by have := HM.out.rl; have := HM.out.sbl; omega) hD.2)
        replace HQ := Lib.hid (md_chg HQ.out (by have := HQL.out; have := HM.out.sbl; omega) hD.2)
        clear hD q20 q21
        go_wp2_with fail
        refine hK.out _ _ ⟨HR.out, HQ.out⟩ (fun hHeld2 => ?_)
        clear hK hHeld
        have hHeld := hHeld2
        clear hHeld2
        refine takeL_do (i := 13) (v := (.agg #[.int .i64 KL, .int .i64 x, .int .i64 i, .int .i64 d2, .int .i64 q2])) rfl (by kernel_rfl) (by kernel_rfl) (by kernel_rfl) (by kernel_rfl) (fun _ _ _ h => hP _ _ _ _ _ h) (by rfl) ?_ (by assumption) ?_
        · intro w hSw
          skip
          go_simp
        simp only [Act.put, List.setIfInBounds_toArray, List.set_cons_zero, List.set_cons_succ]
        refine takeL_call (i := 14) rfl (by kernel_rfl) (fun K2 hK => ?_)
        obtain ⟨Z16, hZ16⟩ : ∃ Z16, Z16 = Z15.alloc (.cells #[.int .i64 KL, .int .i64 x, .int .i64 i, .int .i64 d2, .int .i64 q2] 36) := ⟨_, rfl⟩
        have hb : Below Z15.heap.size Z15 Z16 := by rw [hZ16]; exact nbel_alloc _ _
        obtain ⟨gs, hgs⟩ : ∃ gs, gs = Z15.heap.size := ⟨_, rfl⟩
        have HL : Hid (∀ j u, [.int .i64 KL, .int .i64 x, .int .i64 i, .int .i64 d2, .int .i64 q2][j]? = some u → Z16.cell? ((⟨gs, 0, none⟩ : Addr).add j) = some u) := by
          rw [hZ16, hgs]; exact cells5 _ _ _ _ _ _ _
        replace HM := Lib.hid (HM.out.below hb)
        replace HR := Lib.hid (nrow_below HR.out hb)
        replace HQ := Lib.hid (nrow_below HQ.out hb)
        go_simp
        rw [← hZ16, ← hgs]
        refine hK.out _ _ ⟨HR.out, HQ.out⟩ (fun hHeld2 => ?_)
        clear hK hHeld
        have hHeld := hHeld2
        clear hHeld2
        clear hb hZ16 hgs
        refine takeL_call (i := 15) rfl (by kernel_rfl) (fun K2 hK => ?_)
        refine mdap rfl (.tmp 74) (.tmp 87) 23 rfl w.heap.size 36 j0 (.agg #[.int .i64 0, .int .i64 0, .int .i64 0, .int .i64 0, .int .i64 0]) 5 40 Tryz.underlying23 hj0 hj1 hj2 hj3 rfl (by decide) _ pm _ rfl HM.out.po ⟨gs, 0, none⟩ 1 1 [.int .i64 KL, .int .i64 x, .int .i64 i, .int .i64 d2, .int .i64 q2] rfl rfl HL.out ?_ (by unfold maxLen; omega) (by omega) HM.out.src.2.size ?_
        · intro u hu; simp at hu; rcases hu with rfl | rfl | rfl | rfl | rfl <;> rfl
        intro v' Z17 hown hgrow
        obtain ⟨a8, c8, rfl⟩ := lpown_shape hown
        replace HR := Lib.hid (md_row HR.out HM.out.po (by decide) hgrow)
        replace HQ := Lib.hid (md_row HQ.out HM.out.po (by decide) hgrow)
        replace HM := Lib.hid (HM.out.pipes (zs := [(KL : Int), (x : Int), (i : Int), (d2 : Int), (q2 : Int)]) hgrow hown)
        refine hK.out _ _ ⟨HR.out, HQ.out⟩ (fun hHeld2 => ?_)
        clear hK hHeld hown hgrow HL
        have hHeld := hHeld2
        clear hHeld2
        simp only [Act.put, List.setIfInBounds_toArray, List.set_cons_zero, List.set_cons_succ]
        refine takeL_do (i := 16) (v := (.pointer (some ⟨R, 2, none⟩))) rfl (by kernel_rfl) (by kernel_rfl) (by kernel_rfl) (by kernel_rfl) (fun _ _ _ h => hP _ _ _ _ _ h) (by rfl) ?_ (by assumption) ?_
        · intro w hSw
          skip
          go_simp
        simp only [Act.put, List.setIfInBounds_toArray, List.set_cons_zero, List.set_cons_succ]
        obtain ⟨⟨o0, o1, o2, o3, o4⟩, z0, z1, z2, z3, z4⟩ := rowN5 HR.out
        have l0 := HR.out.lt
        obtain ⟨WZ, hWZ⟩ : ∃ WZ, WZ = Z17.setCell ⟨R, 2, none⟩ (.slice a8 (pm + 1) c8) := ⟨_, rfl⟩
        have HX : Hid (MX w sb R nd hd i (pm + 1) WZ) := by
          refine ⟨.slice a8 (pm + 1) c8, _, HPH.out.two (KL) (x) (d2) (q2) (by omega) (by omega), by omega, ?_, ?_⟩
          · rw [hWZ]; exact HM.out.set HR.out (i := 2) (.slice a8 (pm + 1) c8)
          · rw [hWZ]; exact rowN_put HR.out 2 _ (by simp)
        have HWZ := Lib.hid hWZ
        clear hWZ
        refine takeL_last rfl (by kernel_rfl) (by kernel_rfl) (fun K2 hK => ?_)
        go_simp
        rw [← HWZ.out]
        refine hK.out _ _ ?_
        clear hK hHeld HWZ o0 o1 o2 o3 o4 z0 z1 z2 z3 z4 l0 HM HR
        exact hQ _ _ _ _ _ _ _ _ _ _ _ _ _ _ _ _ _ WZ HX
      · go_simp
        refine (n_any sb 40 _ HM.out.src.1 (by omega)).mono ?_
        rintro e Z18 ⟨⟨q2, rfl, q20, q21, _⟩, hD⟩
        replace HM := Lib.hid (HM.out.draw hD)
        replace HR := Lib.hid (md_chg HR.out (by have := HM.out.rl; have := HM.out.sbl; omega) hD.2)
        clear hD q20 q21
        go_wp2_with fail
        refine hK.out _ _ HR.out (fun hHeld2 => ?_)
        clear hK hHeld
        have hHeld := hHeld2
        clear hHeld2
        refine takeL_call (i := 2) rfl (by kernel_rfl) (fun K2 hK => ?_)
        obtain ⟨Z19, hZ19⟩ : ∃ Z19, Z19 = Z18.alloc (.cells #[.int .i64 1, .int .i64 1, .int .i64 4, .int .i64 3, .int .i64 6, .int .i64 5] 2) := ⟨_, rfl⟩
        have hb : Below Z18.heap.size Z18 Z19 := by rw [hZ19]; exact nbel_alloc _ _
        obtain ⟨gq, hgq⟩ : ∃ gq, gq = Z18.heap.size := ⟨_, rfl⟩
        have HQ : Hid (Z19.rowIs gq 2 6 (rowN [.int .i64 1, .int .i64 1, .int .i64 4, .int .i64 3, .int .i64 6, .int .i64 5])) := by show World.rowIs _ _ _ _ _; rw [hZ19, hgq]; exact rowN_alloc _ _ _
        have HQL : Hid (w.heap.size ≤ gq) := by show _ ≤ _; rw [hgq]; exact HM.out.src.2.size
        replace HM := Lib.hid (HM.out.below hb)
        replace HR := Lib.hid (nrow_below HR.out hb)
        go_simp
        rw [← hZ19, ← hgq]
        refine hK.out _ _ HR.out (fun hHeld2 => ?_)
        clear hK hHeld
        have hHeld := hHeld2
        clear hHeld2
        clear hb hZ19 hgq
        obtain ⟨KL, hKL⟩ : ∃ KL : Int, rowN [.int .i64 1, .int .i64 1, .int .i64 4, .int .i64 3, .int .i64 6, .int .i64 5] z.toNat = .int .i64 KL := by
          have h6 : z.toNat = 0 ∨ z.toNat = 1 ∨ z.toNat = 2 ∨ z.toNat = 3 ∨ z.toNat = 4 ∨ z.toNat = 5 := by omega
          rcases h6 with h | h | h | h | h | h <;> rw [h] <;> exact ⟨_, rfl⟩
        have HKL := Lib.hid hKL
        clear hKL
        refine L_strong (S' := fun V => V.rowIs R 27 5 (rowN [.int .i64 nd, .int .i64 hd, (.slice a9 pm c9), .slice none 0 0, .slice none 0 0]) ∧ V.rowIs gq 2 6 (rowN [.int .i64 1, .int .i64 1, .int .i64 4, .int .i64 3, .int .i64 6, .int .i64 5])) (fun _ h => h.1) _ _ _ _ ?_
        replace hHeld := And.intro HR.out HQ.out
        refine takeL_do (i := 5) (v := (.pointer (some ⟨gq, z.toNat, none⟩))) rfl (by kernel_rfl) (by kernel_rfl) (by kernel_rfl) (by kernel_rfl) (fun _ _ _ h => hP _ _ _ _ _ h) (by rfl) ?_ (by assumption) ?_
        · intro w hSw
          skip
          go_simp
          try (intro hq; exfalso; omega)
        simp only [Act.put, List.setIfInBounds_toArray, List.set_cons_zero, List.set_cons_succ]
        refine takeL_do (i := 6) (v := (.int .i64 KL)) rfl (by kernel_rfl) (by kernel_rfl) (by kernel_rfl) (by kernel_rfl) (fun _ _ _ h => hP _ _ _ _ _ h) (by rfl) ?_ (by assumption) ?_
        · intro w hSw
          have c := hSw.2.cell (i := z.toNat) (by omega)
          rw [HKL.out] at c
          go_simp
        simp only [Act.put, List.setIfInBounds_toArray, List.set_cons_zero, List.set_cons_succ]
        refine takeL_do (i := 13) (v := (.agg #[.int .i64 KL, .int .i64 x, .int .i64 i, .int .i64 d2, .int .i64 q2])) rfl (by kernel_rfl) (by kernel_rfl) (by kernel_rfl) (by kernel_rfl) (fun _ _ _ h => hP _ _ _ _ _ h) (by rfl) ?_ (by assumption) ?_
        · intro w hSw
          skip
          go_simp
        simp only [Act.put, List.setIfInBounds_toArray, List.set_cons_zero, List.set_cons_succ]
        refine takeL_call (i := 14) rfl (by kernel_rfl) (fun K2 hK => ?_)
        obtain ⟨Z20, hZ20⟩ : ∃ Z20, Z20 = Z19.alloc (.cells #[.int .i64 KL, .int .i64 x, .int .i64 i, .int .i64 d2, .int .i64 q2] 36) := ⟨_, rfl⟩
        have hb : Below Z19.heap.size Z19 Z20 := by rw [hZ20]; exact nbel_alloc _ _
        obtain ⟨gs, hgs⟩ : ∃ gs, gs = Z19.heap.size := ⟨_, rfl⟩
        have HL : Hid (∀ j u, [.int .i64 KL, .int .i64 x, .int .i64 i, .int .i64 d2, .int .i64 q2][j]? = some u → Z20.cell? ((⟨gs, 0, none⟩ : Addr).add j) = some u) := by
          rw [hZ20, hgs]; exact cells5 _ _ _ _ _ _ _
        replace HM := Lib.hid (HM.out.below hb)
        replace HR := Lib.hid (nrow_below HR.out hb)
        replace HQ := Lib.hid (nrow_below HQ.out hb)
        go_simp
        rw [← hZ20, ← hgs]
        refine hK.out _ _ ⟨HR.out, HQ.out⟩ (fun hHeld2 => ?_)
        clear hK hHeld
        have hHeld := hHeld2
        clear hHeld2
        clear hb hZ20 hgs
        refine takeL_call (i := 15) rfl (by kernel_rfl) (fun K2 hK => ?_)
        refine mdap rfl (.tmp 74) (.tmp 87) 23 rfl w.heap.size 36 j0 (.agg #[.int .i64 0, .int .i64 0, .int .i64 0, .int .i64 0, .int .i64 0]) 5 40 Tryz.underlying23 hj0 hj1 hj2 hj3 rfl (by decide) _ pm _ rfl HM.out.po ⟨gs, 0, none⟩ 1 1 [.int .i64 KL, .int .i64 x, .int .i64 i, .int .i64 d2, .int .i64 q2] rfl rfl HL.out ?_ (by unfold maxLen; omega) (by omega) HM.out.src.2.size ?_
        · intro u hu; simp at hu; rcases hu with rfl | rfl | rfl | rfl | rfl <;> rfl
        intro v' Z21 hown hgrow
        obtain ⟨a8, c8, rfl⟩ := lpown_shape hown
        replace HR := Lib.hid (md_row HR.out HM.out.po (by decide) hgrow)
        replace HQ := Lib.hid (md_row HQ.out HM.out.po (by decide) hgrow)
        replace HM := Lib.hid (HM.out.pipes (zs := [(KL : Int), (x : Int), (i : Int), (d2 : Int), (q2 : Int)]) hgrow hown)
        refine hK.out _ _ ⟨HR.out, HQ.out⟩ (fun hHeld2 => ?_)
        clear hK hHeld hown hgrow HL
        have hHeld := hHeld2
        clear hHeld2
        simp only [Act.put, List.setIfInBounds_toArray, List.set_cons_zero, List.set_cons_succ]
        refine takeL_do (i := 16) (v := (.pointer (some ⟨R, 2, none⟩))) rfl (by kernel_rfl) (by kernel_rfl) (by kernel_rfl) (by kernel_rfl) (fun _ _ _ h => hP _ _ _ _ _ h) (by rfl) ?_ (by assumption) ?_
        · intro w hSw
          skip
          go_simp
        simp only [Act.put, List.setIfInBounds_toArray, List.set_cons_zero, List.set_cons_succ]
        obtain ⟨⟨o0, o1, o2, o3, o4⟩, z0, z1, z2, z3, z4⟩ := rowN5 HR.out
        have l0 := HR.out.lt
        obtain ⟨WZ, hWZ⟩ : ∃ WZ, WZ = Z21.setCell ⟨R, 2, none⟩ (.slice a8 (pm + 1) c8) := ⟨_, rfl⟩
        have HX : Hid (MX w sb R nd hd i (pm + 1) WZ) := by
          refine ⟨.slice a8 (pm + 1) c8, _, HPH.out.two (KL) (x) (d2) (q2) (by omega) (by omega), by omega, ?_, ?_⟩
          · rw [hWZ]; exact HM.out.set HR.out (i := 2) (.slice a8 (pm + 1) c8)
          · rw [hWZ]; exact rowN_put HR.out 2 _ (by simp)
        have HWZ := Lib.hid hWZ
        clear hWZ
        refine takeL_last rfl (by kernel_rfl) (by kernel_rfl) (fun K2 hK => ?_)
        go_simp
        rw [← HWZ.out]
        refine hK.out _ _ ?_
        clear hK hHeld HWZ o0 o1 o2 o3 o4 z0 z1 z2 z3 z4 l0 HM HR
        exact hQ _ _ _ _ _ _ _ _ _ _ _ _ _ _ _ _ _ WZ HX
end Go.Proofs.YtfgmalnkpgloiaaGreatDoor
namespace Go.Proofs.YtfgmalnkpgloiaaGreatDoor
open Go Go.RowKit Go.Deep

set_option maxRecDepth 100000 in
set_option maxHeartbeats 32000000 in
theorem reg17 {w : World} (sb R r : Nat) (nd hd K1 f d q : Int) (i pm : Nat) (a9 : Option Addr) (c9 : Nat) (ps1 : List Int) (x1 x2 x4 x7 x8 x9 x10 x11 x12 x13 x14 x15 x16 x17 x18 x19 x20 x21 x22 x23 x24 x25 x26 x27 x28 x29 x30 x31 x32 x33 x34 x35 x36 x37 x38 x39 x40 x41 x42 x43 x44 x45 x46 x47 x48 x49 x50 x51 x52 x53 x54 x55 x56 x57 x58 x59 x60 x61 x62 x63 x64 x65 x66 x67 x68 x69 x70 x71 x72 x73 x74 x75 x76 x77 x78 x79 x80 x81 x82 x83 x84 x85 x86 x87 x88 x89 x90 x91 x92 x93 x94 x95 x96 x97 x98 x99 x100 x101 x102 x103 x104 x105 x106 x107 x108 x109 x110 x111 x112 x113 x114 x115 x116 x117 x118 x119 x120 x121 x122 x123 x124 x125 x126 x127 x128 x129 x130 x131 x132 x133 x134 x135 x136 x137 x138 x139 x140 x141 x142 x143 x144 x145 x146 x147 x148 x149 x150 x151 x152 x153 x154 x155 x156 x157 x158 x159 x160 x161 x162 : Value) (ds : _) (Q : Exit → Act → World → Prop) (W0 : World)
    (HM : Hid (MM w sb R (.slice a9 pm c9) (.slice none 0 0) (.slice none 0 0) pm 0 ps1 [] [] W0)) (HR : Hid (W0.rowIs R 27 5 (rowN [.int .i64 nd, .int .i64 hd, (.slice a9 pm c9), .slice none 0 0, .slice none 0 0]))) (HQ : Hid (W0.rowIs r 36 5 (rowN [.int .i64 K1, .int .i64 f, .int .i64 i, .int .i64 d, .int .i64 q]))) (HQL : Hid (w.heap.size ≤ r)) (HQN : Hid (some r ≠ Value.ownBlock (.slice a9 pm c9))) (HPH : Hid (PH i pm ps1)) (hpm1 : pm + 1 ≤ 2 * i) (hi12 : i ≤ 12) (f0 : 0 ≤ f) (f1 : f < (i : Int)) (hP : ∀ c (a : Act) o v w, Q (.panic c) (a.put o v) w → Q (.panic c) a w)
    (hQ : ∀ (y92 y93 y94 y95 y96 y97 y98 y99 y100 y101 y102 : Value) (WZ : World), Hid (MX w sb R nd hd i (pm + 1) WZ) → Q .normal { tmps := #[(.pointer (some ⟨sb, 0, none⟩)), x1, x2, (.pointer (some ⟨R, 0, none⟩)), x4, (.int .i64 i), (.pointer (some ⟨r, 0, none⟩)), x7, x8, x9, x10, x11, x12, x13, x14, x15, x16, x17, x18, x19, x20, x21, x22, x23, x24, x25, x26, x27, x28, x29, x30, x31, x32, x33, x34, x35, x36, x37, x38, x39, x40, x41, x42, x43, x44, x45, x46, x47, x48, x49, x50, x51, x52, x53, x54, x55, x56, x57, x58, x59, x60, x61, x62, x63, x64, x65, x66, x67, x68, x69, x70, x71, x72, x73, x74, x75, x76, x77, x78, x79, x80, x81, x82, x83, x84, x85, x86, x87, x88, x89, x90, x91, y92, y93, y94, y95, y96, y97, y98, y99, y100, y101, y102, x103, x104, x105, x106, x107, x108, x109, x110, x111, x112, x113, x114, x115, x116, x117, x118, x119, x120, x121, x122, x123, x124, x125, x126, x127, x128, x129, x130, x131, x132, x133, x134, x135, x136, x137, x138, x139, x140, x141, x142, x143, x144, x145, x146, x147, x148, x149, x150, x151, x152, x153, x154, x155, x156, x157, x158, x159, x160, x161, x162], defers := ds } WZ) :
    (Code.region 17 #[{ dst := some 92, op := Op.fieldAddr 27 (Operand.tmp 3) 2, type := 0, pos := "l08_mains.go:301", after := #[], guard := none }, { dst := some 93, op := Op.load 23 (Operand.tmp 92), type := 23, pos := "l08_mains.go:301", after := #[{ on := 0, ground := Ground.data }], guard := none }, { dst := some 94, op := Op.fieldAddr 36 (Operand.tmp 6) 1, type := 0, pos := "l08_mains.go:301", after := #[], guard := none }, { dst := some 95, op := Op.load 2 (Operand.tmp 94), type := 2, pos := "l08_mains.go:301", after := #[{ on := 2, ground := Ground.data }], guard := none }, { dst := some 96, op := Op.move (Operand.tmp 5), type := 2, pos := "l08_mains.go:301", after := #[], guard := none }, { dst := some 97, op := Op.move (Operand.tmp 0), type := 55, pos := "l08_mains.go:301", after := #[], guard := none }, { dst := some 98, op := Op.call { callee := Callee.value (Operand.func 31), args := #[Operand.tmp 97, Operand.const (Value.int IntKind.i64 9)], argTypes := #[55, 2] }, type := 2, pos := "l08_mains.go:301", after := #[{ on := 5, ground := Ground.data }], guard := none }, { dst := some 99, op := Op.build 36 #[(0, Operand.const (Value.int IntKind.i64 1)), (1, Operand.tmp 95), (2, Operand.tmp 96), (3, Operand.tmp 98)], type := 36, pos := "l08_mains.go:301", after := #[{ on := 3, ground := Ground.data }, { on := 4, ground := Ground.data }, { on := 6, ground := Ground.data }], guard := none }, { dst := some 100, op := Op.buildSlice 23 1 #[(0, Operand.tmp 99)], type := 23, pos := "l08_mains.go:301", after := #[{ on := 7, ground := Ground.data }], guard := none }, { dst := some 101, op := Op.call { callee := Callee.builtin Builtin.append, args := #[Operand.tmp 93, Operand.tmp 100], argTypes := #[23, 23] }, type := 23, pos := "l08_mains.go:301", after := #[{ on := 1, ground := Ground.data }, { on := 8, ground := Ground.data }, { on := 6, ground := Ground.chain }], guard := none }, { dst := some 102, op := Op.fieldAddr 27 (Operand.tmp 3) 2, type := 0, pos := "l08_mains.go:301", after := #[{ on := 0, ground := Ground.phase }, { on := 1, ground := Ground.phase }, { on := 2, ground := Ground.phase }, { on := 3, ground := Ground.phase }, { on := 4, ground := Ground.phase }, { on := 5, ground := Ground.phase }, { on := 6, ground := Ground.phase }, { on := 7, ground := Ground.phase }, { on := 8, ground := Ground.phase }, { on := 9, ground := Ground.phase }], guard := none }, { dst := none, op := Op.store 23 (Operand.tmp 102) (Operand.tmp 101), type := 0, pos := "l08_mains.go:301", after := #[{ on := 10, ground := Ground.data }, { on := 9, ground := Ground.data }, { on := 9, ground := Ground.chain }, { on := 0, ground := Ground.phase }, { on := 1, ground := Ground.phase }, { on := 2, ground := Ground.phase }, { on := 3, ground := Ground.phase }, { on := 4, ground := Ground.phase }, { on := 5, ground := Ground.phase }, { on := 6, ground := Ground.phase }, { on := 7, ground := Ground.phase }, { on := 8, ground := Ground.phase }, { on := 9, ground := Ground.phase }], guard := none }] true).wp Tryz.prog Q { tmps := #[(.pointer (some ⟨sb, 0, none⟩)), x1, x2, (.pointer (some ⟨R, 0, none⟩)), x4, (.int .i64 i), (.pointer (some ⟨r, 0, none⟩)), x7, x8, x9, x10, x11, x12, x13, x14, x15, x16, x17, x18, x19, x20, x21, x22, x23, x24, x25, x26, x27, x28, x29, x30, x31, x32, x33, x34, x35, x36, x37, x38, x39, x40, x41, x42, x43, x44, x45, x46, x47, x48, x49, x50, x51, x52, x53, x54, x55, x56, x57, x58, x59, x60, x61, x62, x63, x64, x65, x66, x67, x68, x69, x70, x71, x72, x73, x74, x75, x76, x77, x78, x79, x80, x81, x82, x83, x84, x85, x86, x87, x88, x89, x90, x91, x92, x93, x94, x95, x96, x97, x98, x99, x100, x101, x102, x103, x104, x105, x106, x107, x108, x109, x110, x111, x112, x113, x114, x115, x116, x117, x118, x119, x120, x121, x122, x123, x124, x125, x126, x127, x128, x129, x130, x131, x132, x133, x134, x135, x136, x137, x138, x139, x140, x141, x142, x143, x144, x145, x146, x147, x148, x149, x150, x151, x152, x153, x154, x155, x156, x157, x158, x159, x160, x161, x162], defers := ds } W0 := by
  obtain ⟨j0, hj0, hj1, hj2, hj3⟩ := info_parts pinfo
  refine region_L (fun V => V.rowIs R 27 5 (rowN [.int .i64 nd, .int .i64 hd, (.slice a9 pm c9), .slice none 0 0, .slice none 0 0]) ∧ V.rowIs r 36 5 (rowN [.int .i64 K1, .int .i64 f, .int .i64 i, .int .i64 d, .int .i64 q])) 11 (by kernel_rfl) ⟨nrow_below HR.out (Below.refl _ _).drew, nrow_below HQ.out (Below.refl _ _).drew⟩ (fun hHeld => ?_)
  obtain ⟨Z, hZ⟩ : ∃ Z, Z = W0.drew := ⟨_, rfl⟩
  replace HM := Lib.hid (HM.out.below (Below.refl _ _).drew)
  replace HR := Lib.hid (nrow_below HR.out (Below.refl _ _).drew)
  replace HQ := Lib.hid (nrow_below HQ.out (Below.refl _ _).drew)
  rw [← hZ] at hHeld HM HR HQ ⊢
  clear hZ
  refine takeL_do (i := 0) (v := (.pointer (some ⟨R, 2, none⟩))) rfl (by kernel_rfl) (by kernel_rfl) (by kernel_rfl) (by kernel_rfl) (fun _ _ _ h => hP _ _ _ _ _ h) (by rfl) ?_ (by assumption) ?_
  · intro w hSw
    skip
    go_simp
  simp only [Act.put, List.setIfInBounds_toArray, List.set_cons_zero, List.set_cons_succ]
  refine takeL_do (i := 1) (v := (.slice a9 pm c9)) rfl (by kernel_rfl) (by kernel_rfl) (by kernel_rfl) (by kernel_rfl) (fun _ _ _ h => hP _ _ _ _ _ h) (by rfl) ?_ (by assumption) ?_
  · intro w hSw
    obtain ⟨⟨x0, x1, x2, x3, x4⟩, _⟩ := rowN5 hSw.1
    go_simp
  simp only [Act.put, List.setIfInBounds_toArray, List.set_cons_zero, List.set_cons_succ]
  refine takeL_do (i := 2) (v := (.pointer (some ⟨r, 1, none⟩))) rfl (by kernel_rfl) (by kernel_rfl) (by kernel_rfl) (by kernel_rfl) (fun _ _ _ h => hP _ _ _ _ _ h) (by rfl) ?_ (by assumption) ?_
  · intro w hSw
    skip
    go_simp
  simp only [Act.put, List.setIfInBounds_toArray, List.set_cons_zero, List.set_cons_succ]
  refine takeL_do (i := 3) (v := (.int .i64 f)) rfl (by kernel_rfl) (by kernel_rfl) (by kernel_rfl) (by kernel_rfl) (fun _ _ _ h => hP _ _ _ _ _ h) (by rfl) ?_ (by assumption) ?_
  · intro w hSw
    obtain ⟨⟨x0, x1, x2, x3, x4⟩, _⟩ := rowN5 hSw.2
    go_simp
  simp only [Act.put, List.setIfInBounds_toArray, List.set_cons_zero, List.set_cons_succ]
  refine takeL_do (i := 4) (v := (.int .i64 i)) rfl (by kernel_rfl) (by kernel_rfl) (by kernel_rfl) (by kernel_rfl) (fun _ _ _ h => hP _ _ _ _ _ h) (by rfl) ?_ (by assumption) ?_
  · intro w hSw
    skip
    go_simp
  simp only [Act.put, List.setIfInBounds_toArray, List.set_cons_zero, List.set_cons_succ]
  refine takeL_do (i := 5) (v := (.pointer (some ⟨sb, 0, none⟩))) rfl (by kernel_rfl) (by kernel_rfl) (by kernel_rfl) (by kernel_rfl) (fun _ _ _ h => hP _ _ _ _ _ h) (by rfl) ?_ (by assumption) ?_
  · intro w hSw
    skip
    go_simp
  simp only [Act.put, List.setIfInBounds_toArray, List.set_cons_zero, List.set_cons_succ]
  refine takeL_call (i := 6) rfl (by kernel_rfl) (fun K2 hK => ?_)
  go_simp
  refine (n_any sb 9 _ HM.out.src.1 (by omega)).mono ?_
  rintro e Z1 ⟨⟨d2, rfl, d20, d21, _⟩, hD⟩
  replace HM := Lib.hid (HM.out.draw hD)
  replace HR := Lib.hid (md_chg HR.out (by have := HM.out.rl; have := HM.out.sbl; omega) hD.2)
  replace HQ := Lib.hid (md_chg HQ.out (by have := HQL.out; have := HM.out.sbl; omega) hD.2)
  clear hD d20 d21
  go_wp2_with fail
  refine hK.out _ _ ⟨HR.out, HQ.out⟩ (fun hHeld2 => ?_)
  clear hK hHeld
  have hHeld := hHeld2
  clear hHeld2
  refine takeL_do (i := 7) (v := (.agg #[.int .i64 1, .int .i64 f, .int .i64 i, .int .i64 d2, .int .i64 0])) rfl (by kernel_rfl) (by kernel_rfl) (by kernel_rfl) (by kernel_rfl) (fun _ _ _ h => hP _ _ _ _ _ h) (by rfl) ?_ (by assumption) ?_
  · intro w hSw
    skip
    go_simp
  simp only [Act.put, List.setIfInBounds_toArray, List.set_cons_zero, List.set_cons_succ]
  refine takeL_call (i := 8) rfl (by kernel_rfl) (fun K2 hK => ?_)
  obtain ⟨Z2, hZ2⟩ : ∃ Z2, Z2 = Z1.alloc (.cells #[.int .i64 1, .int .i64 f, .int .i64 i, .int .i64 d2, .int .i64 0] 36) := ⟨_, rfl⟩
  have hb : Below Z1.heap.size Z1 Z2 := by rw [hZ2]; exact nbel_alloc _ _
  obtain ⟨gs, hgs⟩ : ∃ gs, gs = Z1.heap.size := ⟨_, rfl⟩
  have HL : Hid (∀ j u, [.int .i64 1, .int .i64 f, .int .i64 i, .int .i64 d2, .int .i64 0][j]? = some u → Z2.cell? ((⟨gs, 0, none⟩ : Addr).add j) = some u) := by
    rw [hZ2, hgs]; exact cells5 _ _ _ _ _ _ _
  replace HM := Lib.hid (HM.out.below hb)
  replace HR := Lib.hid (nrow_below HR.out hb)
  replace HQ := Lib.hid (nrow_below HQ.out hb)
  go_simp
  rw [← hZ2, ← hgs]
  refine hK.out _ _ ⟨HR.out, HQ.out⟩ (fun hHeld2 => ?_)
  clear hK hHeld
  have hHeld := hHeld2
  clear hHeld2
  clear hb hZ2 hgs
  refine takeL_call (i := 9) rfl (by kernel_rfl) (fun K2 hK => ?_)
  refine mdap rfl (.tmp 93) (.tmp 100) 23 rfl w.heap.size 36 j0 (.agg #[.int .i64 0, .int .i64 0, .int .i64 0, .int .i64 0, .int .i64 0]) 5 40 Tryz.underlying23 hj0 hj1 hj2 hj3 rfl (by decide) _ pm _ rfl HM.out.po ⟨gs, 0, none⟩ 1 1 [.int .i64 1, .int .i64 f, .int .i64 i, .int .i64 d2, .int .i64 0] rfl rfl HL.out ?_ (by unfold maxLen; omega) (by omega) HM.out.src.2.size ?_
  · intro u hu; simp at hu; rcases hu with rfl | rfl | rfl | rfl | rfl <;> rfl
  intro v' Z3 hown hgrow
  obtain ⟨a8, c8, rfl⟩ := lpown_shape hown
  replace HR := Lib.hid (md_row HR.out HM.out.po (by decide) hgrow)
  replace HQ := Lib.hid (HQ.out.of_block (hgrow.block r HQ.out.lt HQN.out))
  replace HM := Lib.hid (HM.out.pipes (zs := [(1 : Int), (f : Int), (i : Int), (d2 : Int), (0 : Int)]) hgrow hown)
  refine hK.out _ _ ⟨HR.out, HQ.out⟩ (fun hHeld2 => ?_)
  clear hK hHeld hown hgrow HL
  have hHeld := hHeld2
  clear hHeld2
  simp only [Act.put, List.setIfInBounds_toArray, List.set_cons_zero, List.set_cons_succ]
  refine takeL_do (i := 10) (v := (.pointer (some ⟨R, 2, none⟩))) rfl (by kernel_rfl) (by kernel_rfl) (by kernel_rfl) (by kernel_rfl) (fun _ _ _ h => hP _ _ _ _ _ h) (by rfl) ?_ (by assumption) ?_
  · intro w hSw
    skip
    go_simp
  simp only [Act.put, List.setIfInBounds_toArray, List.set_cons_zero, List.set_cons_succ]
  obtain ⟨⟨o0, o1, o2, o3, o4⟩, z0, z1, z2, z3, z4⟩ := rowN5 HR.out
  have l0 := HR.out.lt
  obtain ⟨WZ, hWZ⟩ : ∃ WZ, WZ = Z3.setCell ⟨R, 2, none⟩ (.slice a8 (pm + 1) c8) := ⟨_, rfl⟩
  have HX : Hid (MX w sb R nd hd i (pm + 1) WZ) := by
    refine ⟨.slice a8 (pm + 1) c8, _, HPH.out.two (1) (f) (d2) (0) (by omega) (by omega), by omega, ?_, ?_⟩
    · rw [hWZ]; exact HM.out.set HR.out (i := 2) (.slice a8 (pm + 1) c8)
    · rw [hWZ]; exact rowN_put HR.out 2 _ (by simp)
  have HWZ := Lib.hid hWZ
  clear hWZ
  refine takeL_last rfl (by kernel_rfl) (by kernel_rfl) (fun K2 hK => ?_)
  go_simp
  rw [← HWZ.out]
  refine hK.out _ _ ?_
  clear hK hHeld HWZ o0 o1 o2 o3 o4 z0 z1 z2 z3 z4 l0 HM HR
  exact hQ _ _ _ _ _ _ _ _ _ _ _ WZ HX
end Go.Proofs.YtfgmalnkpgloiaaGreatDoor
namespace Go.Proofs.YtfgmalnkpgloiaaGreatDoor
open Go Go.RowKit Go.Deep

/-- Mains whose wants are being drawn. -/
def MY (w : World) (sb R : Nat) (nd hd : Int) (pv : Value) (pn k : Nat) (ps : List Int) (W : World) : Prop := ∃ wv ws, MM w sb R pv (.slice none 0 0) wv pn k ps ws [] W ∧ W.rowIs R 27 5 (rowN [.int .i64 nd, .int .i64 hd, pv, .slice none 0 0, wv])
set_option maxRecDepth 100000 in
set_option maxHeartbeats 32000000 in
theorem reg21 {w : World} (sb R : Nat) (nd hd : Int) (pv : Value) (pn k : Nat) (wa : Option Addr) (wk : Nat) (ps ws : List Int) (x1 x2 x4 x5 x6 x7 x8 x9 x10 x11 x12 x13 x14 x15 x16 x17 x18 x19 x20 x21 x22 x23 x24 x25 x26 x27 x28 x29 x30 x31 x32 x33 x34 x35 x36 x37 x38 x39 x40 x41 x42 x43 x44 x45 x46 x47 x48 x49 x50 x51 x52 x53 x54 x55 x56 x57 x58 x59 x60 x61 x62 x63 x64 x65 x66 x67 x68 x69 x70 x71 x72 x73 x74 x75 x76 x77 x78 x79 x80 x81 x82 x83 x84 x85 x86 x87 x88 x89 x90 x91 x92 x93 x94 x95 x96 x97 x98 x99 x100 x101 x102 x103 x104 x105 x106 x107 x108 x109 x110 x111 x112 x113 x114 x115 x116 x117 x118 x119 x120 x121 x122 x123 x124 x125 x126 x127 x128 x129 x130 x131 x132 x133 x134 x135 x136 x137 x138 x139 x140 x141 x142 x143 x144 x145 x146 x147 x148 x149 x150 x151 x152 x153 x154 x155 x156 x157 x158 x159 x160 x161 x162 : Value) (ds : _) (Q : Exit → Act → World → Prop) (W0 : World)
    (HM : Hid (MM w sb R pv (.slice none 0 0) (.slice wa k wk) pn k ps ws [] W0)) (HR : Hid (W0.rowIs R 27 5 (rowN [.int .i64 nd, .int .i64 hd, pv, .slice none 0 0, (.slice wa k wk)]))) (hk : k ≤ 100) (hP : ∀ c (a : Act) o v w, Q (.panic c) (a.put o v) w → Q (.panic c) a w)
    (hQ : ∀ (y108 y109 y110 y111 y112 y113 y114 : Value) (WZ : World), Hid (MY w sb R nd hd pv pn (k + 1) ps WZ) → Q .normal { tmps := #[(.pointer (some ⟨sb, 0, none⟩)), x1, x2, (.pointer (some ⟨R, 0, none⟩)), x4, x5, x6, x7, x8, x9, x10, x11, x12, x13, x14, x15, x16, x17, x18, x19, x20, x21, x22, x23, x24, x25, x26, x27, x28, x29, x30, x31, x32, x33, x34, x35, x36, x37, x38, x39, x40, x41, x42, x43, x44, x45, x46, x47, x48, x49, x50, x51, x52, x53, x54, x55, x56, x57, x58, x59, x60, x61, x62, x63, x64, x65, x66, x67, x68, x69, x70, x71, x72, x73, x74, x75, x76, x77, x78, x79, x80, x81, x82, x83, x84, x85, x86, x87, x88, x89, x90, x91, x92, x93, x94, x95, x96, x97, x98, x99, x100, x101, x102, x103, x104, x105, x106, x107, y108, y109, y110, y111, y112, y113, y114, x115, x116, x117, x118, x119, x120, x121, x122, x123, x124, x125, x126, x127, x128, x129, x130, x131, x132, x133, x134, x135, x136, x137, x138, x139, x140, x141, x142, x143, x144, x145, x146, x147, x148, x149, x150, x151, x152, x153, x154, x155, x156, x157, x158, x159, x160, x161, x162], defers := ds } WZ) :
    (Code.region 21 #[{ dst := some 108, op := Op.fieldAddr 27 (Operand.tmp 3) 4, type := 0, pos := "l08_mains.go:305", after := #[], guard := none }, { dst := some 109, op := Op.load 25 (Operand.tmp 108), type := 25, pos := "l08_mains.go:305", after := #[{ on := 0, ground := Ground.data }], guard := none }, { dst := some 110, op := Op.move (Operand.tmp 0), type := 55, pos := "l08_mains.go:305", after := #[], guard := none }, { dst := some 111, op := Op.call { callee := Callee.value (Operand.func 31), args := #[Operand.tmp 110, Operand.const (Value.int IntKind.i64 40)], argTypes := #[55, 2] }, type := 2, pos := "l08_mains.go:305", after := #[{ on := 2, ground := Ground.data }], guard := none }, { dst := some 112, op := Op.buildSlice 25 1 #[(0, Operand.tmp 111)], type := 25, pos := "l08_mains.go:305", after := #[{ on := 3, ground := Ground.data }], guard := none }, { dst := some 113, op := Op.call { callee := Callee.builtin Builtin.append, args := #[Operand.tmp 109, Operand.tmp 112], argTypes := #[25, 25] }, type := 25, pos := "l08_mains.go:305", after := #[{ on := 1, ground := Ground.data }, { on := 4, ground := Ground.data }, { on := 3, ground := Ground.chain }], guard := none }, { dst := some 114, op := Op.fieldAddr 27 (Operand.tmp 3) 4, type := 0, pos := "l08_mains.go:305", after := #[{ on := 0, ground := Ground.phase }, { on := 1, ground := Ground.phase }, { on := 2, ground := Ground.phase }, { on := 3, ground := Ground.phase }, { on := 4, ground := Ground.phase }, { on := 5, ground := Ground.phase }], guard := none }, { dst := none, op := Op.store 25 (Operand.tmp 114) (Operand.tmp 113), type := 0, pos := "l08_mains.go:305", after := #[{ on := 6, ground := Ground.data }, { on := 5, ground := Ground.data }, { on := 5, ground := Ground.chain }, { on := 0, ground := Ground.phase }, { on := 1, ground := Ground.phase }, { on := 2, ground := Ground.phase }, { on := 3, ground := Ground.phase }, { on := 4, ground := Ground.phase }, { on := 5, ground := Ground.phase }], guard := none }] true).wp Tryz.prog Q { tmps := #[(.pointer (some ⟨sb, 0, none⟩)), x1, x2, (.pointer (some ⟨R, 0, none⟩)), x4, x5, x6, x7, x8, x9, x10, x11, x12, x13, x14, x15, x16, x17, x18, x19, x20, x21, x22, x23, x24, x25, x26, x27, x28, x29, x30, x31, x32, x33, x34, x35, x36, x37, x38, x39, x40, x41, x42, x43, x44, x45, x46, x47, x48, x49, x50, x51, x52, x53, x54, x55, x56, x57, x58, x59, x60, x61, x62, x63, x64, x65, x66, x67, x68, x69, x70, x71, x72, x73, x74, x75, x76, x77, x78, x79, x80, x81, x82, x83, x84, x85, x86, x87, x88, x89, x90, x91, x92, x93, x94, x95, x96, x97, x98, x99, x100, x101, x102, x103, x104, x105, x106, x107, x108, x109, x110, x111, x112, x113, x114, x115, x116, x117, x118, x119, x120, x121, x122, x123, x124, x125, x126, x127, x128, x129, x130, x131, x132, x133, x134, x135, x136, x137, x138, x139, x140, x141, x142, x143, x144, x145, x146, x147, x148, x149, x150, x151, x152, x153, x154, x155, x156, x157, x158, x159, x160, x161, x162], defers := ds } W0 := by
  obtain ⟨i0, hi0, hi1, hi2, hi3⟩ := info_parts lpinfo_int
  refine region_L (fun V => V.rowIs R 27 5 (rowN [.int .i64 nd, .int .i64 hd, pv, .slice none 0 0, (.slice wa k wk)])) 7 (by kernel_rfl) (nrow_below HR.out (Below.refl _ _).drew) (fun hHeld => ?_)
  obtain ⟨Z, hZ⟩ : ∃ Z, Z = W0.drew := ⟨_, rfl⟩
  replace HM := Lib.hid (HM.out.below (Below.refl _ _).drew)
  replace HR := Lib.hid (nrow_below HR.out (Below.refl _ _).drew)
  rw [← hZ] at hHeld HM HR ⊢
  clear hZ
  refine takeL_do (i := 0) (v := (.pointer (some ⟨R, 4, none⟩))) rfl (by kernel_rfl) (by kernel_rfl) (by kernel_rfl) (by kernel_rfl) (fun _ _ _ h => hP _ _ _ _ _ h) (by rfl) ?_ (by assumption) ?_
  · intro w hSw
    skip
    go_simp
  simp only [Act.put, List.setIfInBounds_toArray, List.set_cons_zero, List.set_cons_succ]
  refine takeL_do (i := 1) (v := (.slice wa k wk)) rfl (by kernel_rfl) (by kernel_rfl) (by kernel_rfl) (by kernel_rfl) (fun _ _ _ h => hP _ _ _ _ _ h) (by rfl) ?_ (by assumption) ?_
  · intro w hSw
    obtain ⟨⟨x0, x1, x2, x3, x4⟩, _⟩ := rowN5 hSw
    go_simp
  simp only [Act.put, List.setIfInBounds_toArray, List.set_cons_zero, List.set_cons_succ]
  refine takeL_do (i := 2) (v := (.pointer (some ⟨sb, 0, none⟩))) rfl (by kernel_rfl) (by kernel_rfl) (by kernel_rfl) (by kernel_rfl) (fun _ _ _ h => hP _ _ _ _ _ h) (by rfl) ?_ (by assumption) ?_
  · intro w hSw
    skip
    go_simp
  simp only [Act.put, List.setIfInBounds_toArray, List.set_cons_zero, List.set_cons_succ]
  refine takeL_call (i := 3) rfl (by kernel_rfl) (fun K2 hK => ?_)
  go_simp
  refine (n_any sb 40 _ HM.out.src.1 (by omega)).mono ?_
  rintro e Z1 ⟨⟨u, rfl, u0, u1, _⟩, hD⟩
  replace HM := Lib.hid (HM.out.draw hD)
  replace HR := Lib.hid (md_chg HR.out (by have := HM.out.rl; have := HM.out.sbl; omega) hD.2)
  clear hD u0 u1
  go_wp2_with fail
  refine hK.out _ _ HR.out (fun hHeld2 => ?_)
  clear hK hHeld
  have hHeld := hHeld2
  clear hHeld2
  refine takeL_call (i := 4) rfl (by kernel_rfl) (fun K2 hK => ?_)
  obtain ⟨Z2, hZ2⟩ : ∃ Z2, Z2 = Z1.alloc (.cells #[.int .i64 u] 2) := ⟨_, rfl⟩
  have hb : Below Z1.heap.size Z1 Z2 := by rw [hZ2]; exact nbel_alloc _ _
  obtain ⟨gs, hgs⟩ : ∃ gs, gs = Z1.heap.size := ⟨_, rfl⟩
  have HL : Hid (Z2.cell? ⟨gs, 0, none⟩ = some (.int .i64 u)) := by
    show _ = _
    rw [hZ2, hgs]
    exact (rowN_alloc Z1 [.int .i64 u] 2).cell (i := 0) (by simp)
  replace HM := Lib.hid (HM.out.below hb)
  replace HR := Lib.hid (nrow_below HR.out hb)
  go_simp
  rw [← hZ2, ← hgs]
  refine hK.out _ _ HR.out (fun hHeld2 => ?_)
  clear hK hHeld
  have hHeld := hHeld2
  clear hHeld2
  clear hb hZ2 hgs
  refine takeL_call (i := 5) rfl (by kernel_rfl) (fun K2 hK => ?_)
  refine mdap rfl (.tmp 109) (.tmp 112) 25 rfl w.heap.size 2 i0 (.int .i64 0) 1 8 Tryz.underlying25 hi0 hi1 hi2 hi3 rfl (by decide) _ k _ rfl HM.out.wo ⟨gs, 0, none⟩ 1 1 [.int .i64 u] rfl rfl ?_ ?_ (by unfold maxLen; omega) (by omega) HM.out.src.2.size ?_
  · have c0 := HL.out
    intro j u hj
    match j, hj with
    | 0, hj => simp at hj; subst hj; simpa [Addr.add] using c0
  · intro u hu; simp at hu; subst hu; rfl
  intro v' Z3 hown hgrow
  obtain ⟨a8, c8, rfl⟩ := lpown_shape hown
  replace HR := Lib.hid (md_row HR.out HM.out.wo (by decide) hgrow)
  replace HM := Lib.hid (HM.out.wants (zs := [u]) hgrow hown)
  refine hK.out _ _ HR.out (fun hHeld2 => ?_)
  clear hK hHeld hown hgrow HL
  have hHeld := hHeld2
  clear hHeld2
  simp only [Act.put, List.setIfInBounds_toArray, List.set_cons_zero, List.set_cons_succ]
  refine takeL_do (i := 6) (v := (.pointer (some ⟨R, 4, none⟩))) rfl (by kernel_rfl) (by kernel_rfl) (by kernel_rfl) (by kernel_rfl) (fun _ _ _ h => hP _ _ _ _ _ h) (by rfl) ?_ (by assumption) ?_
  · intro w hSw
    skip
    go_simp
  simp only [Act.put, List.setIfInBounds_toArray, List.set_cons_zero, List.set_cons_succ]
  obtain ⟨⟨o0, o1, o2, o3, o4⟩, z0, z1, z2, z3, z4⟩ := rowN5 HR.out
  have l0 := HR.out.lt
  obtain ⟨WZ, hWZ⟩ : ∃ WZ, WZ = Z3.setCell ⟨R, 4, none⟩ (.slice a8 (k + 1) c8) := ⟨_, rfl⟩
  have HX : Hid (MY w sb R nd hd pv pn (k + 1) ps WZ) := by
    refine ⟨.slice a8 (k + 1) c8, ws ++ [u], ?_, ?_⟩
    · rw [hWZ]; exact HM.out.set HR.out (i := 4) (.slice a8 (k + 1) c8)
    · rw [hWZ]; exact rowN_put HR.out 4 _ (by simp)
  have HWZ := Lib.hid hWZ
  clear hWZ
  refine takeL_last rfl (by kernel_rfl) (by kernel_rfl) (fun K2 hK => ?_)
  go_simp
  rw [← HWZ.out]
  refine hK.out _ _ ?_
  clear hK hHeld HWZ o0 o1 o2 o3 o4 z0 z1 z2 z3 z4 l0 HM HR
  exact hQ _ _ _ _ _ _ _ WZ HX
end Go.Proofs.YtfgmalnkpgloiaaGreatDoor
namespace Go.Proofs.YtfgmalnkpgloiaaGreatDoor
open Go Go.RowKit Go.Deep

set_option maxRecDepth 100000 in
set_option maxHeartbeats 32000000 in
theorem reg25 {w : World} (sb R : Nat) (nd hd : Int) (pv lv wv : Value) (pn wn : Nat) (ps ws : List Int) (qs : List (Value × List Int)) (x1 x2 x4 x5 x6 x7 x8 x9 x10 x11 x12 x13 x14 x15 x16 x17 x18 x19 x20 x21 x22 x23 x24 x25 x26 x27 x28 x29 x30 x31 x32 x33 x34 x35 x36 x37 x38 x39 x40 x41 x42 x43 x44 x45 x46 x47 x48 x49 x50 x51 x52 x53 x54 x55 x56 x57 x58 x59 x60 x61 x62 x63 x64 x65 x66 x67 x68 x69 x70 x71 x72 x73 x74 x75 x76 x77 x78 x79 x80 x81 x82 x83 x84 x85 x86 x87 x88 x89 x90 x91 x92 x93 x94 x95 x96 x97 x98 x99 x100 x101 x102 x103 x104 x105 x106 x107 x108 x109 x110 x111 x112 x113 x114 x115 x116 x117 x118 x119 x120 x121 x122 x123 x124 x125 x126 x127 x128 x129 x130 x131 x132 x133 x134 x135 x136 x137 x138 x139 x140 x141 x142 x143 x144 x145 x146 x147 x148 x149 x150 x151 x152 x153 x154 x155 x156 x157 x158 x159 x160 x161 x162 : Value) (ds : _) (Q : Exit → Act → World → Prop) (W0 : World)
    (HM : Hid (MM w sb R pv lv wv pn wn ps ws qs W0)) (HR : Hid (W0.rowIs R 27 5 (rowN [.int .i64 nd, .int .i64 hd, pv, lv, wv]))) (HLN : Hid (pn ≤ 900 ∧ wn ≤ 900 ∧ qs.length ≤ 900 ∧ ∀ x, x ∈ qs → x.2.length ≤ 900)) (h0 : -100 ≤ nd) (h1 : nd ≤ 100) (hP : ∀ c (a : Act) o v w, Q (.panic c) (a.put o v) w → Q (.panic c) a w)
    (hQ : ∀ (y122 y123 y124 y125 y126 y127 y128 y129 : Value) (WZ : World), Hid (MF w sb R WZ) → Q .normal { tmps := #[(.pointer (some ⟨sb, 0, none⟩)), x1, x2, (.pointer (some ⟨R, 0, none⟩)), x4, x5, x6, x7, x8, x9, x10, x11, x12, x13, x14, x15, x16, x17, x18, x19, x20, x21, x22, x23, x24, x25, x26, x27, x28, x29, x30, x31, x32, x33, x34, x35, x36, x37, x38, x39, x40, x41, x42, x43, x44, x45, x46, x47, x48, x49, x50, x51, x52, x53, x54, x55, x56, x57, x58, x59, x60, x61, x62, x63, x64, x65, x66, x67, x68, x69, x70, x71, x72, x73, x74, x75, x76, x77, x78, x79, x80, x81, x82, x83, x84, x85, x86, x87, x88, x89, x90, x91, x92, x93, x94, x95, x96, x97, x98, x99, x100, x101, x102, x103, x104, x105, x106, x107, x108, x109, x110, x111, x112, x113, x114, x115, x116, x117, x118, x119, x120, x121, y122, y123, y124, y125, y126, y127, y128, y129, x130, x131, x132, x133, x134, x135, x136, x137, x138, x139, x140, x141, x142, x143, x144, x145, x146, x147, x148, x149, x150, x151, x152, x153, x154, x155, x156, x157, x158, x159, x160, x161, x162], defers := ds } WZ) :
    (Code.region 25 #[{ dst := some 122, op := Op.fieldAddr 27 (Operand.tmp 3) 0, type := 0, pos := "l08_mains.go:319", after := #[], guard := none }, { dst := some 123, op := Op.load 2 (Operand.tmp 122), type := 2, pos := "l08_mains.go:319", after := #[{ on := 0, ground := Ground.data }], guard := none }, { dst := some 124, op := Op.binOp BinOp.add 2 (Operand.tmp 123) (Operand.const (Value.int IntKind.i64 1)) 2, type := 2, pos := "l08_mains.go:319", after := #[{ on := 1, ground := Ground.data }], guard := none }, { dst := some 125, op := Op.move (Operand.tmp 0), type := 55, pos := "l08_mains.go:319", after := #[], guard := none }, { dst := some 126, op := Op.call { callee := Callee.value (Operand.func 31), args := #[Operand.tmp 125, Operand.const (Value.int IntKind.i64 2)], argTypes := #[55, 2] }, type := 2, pos := "l08_mains.go:319", after := #[{ on := 3, ground := Ground.data }], guard := none }, { dst := some 127, op := Op.binOp BinOp.mul 2 (Operand.const (Value.int IntKind.i64 2)) (Operand.tmp 126) 2, type := 2, pos := "l08_mains.go:319", after := #[{ on := 4, ground := Ground.data }], guard := none }, { dst := some 128, op := Op.binOp BinOp.sub 2 (Operand.tmp 124) (Operand.tmp 127) 2, type := 2, pos := "l08_mains.go:319", after := #[{ on := 2, ground := Ground.data }, { on := 5, ground := Ground.data }], guard := none }, { dst := some 129, op := Op.fieldAddr 27 (Operand.tmp 3) 0, type := 0, pos := "l08_mains.go:319", after := #[{ on := 0, ground := Ground.phase }, { on := 1, ground := Ground.phase }, { on := 2, ground := Ground.phase }, { on := 3, ground := Ground.phase }, { on := 4, ground := Ground.phase }, { on := 5, ground := Ground.phase }, { on := 6, ground := Ground.phase }], guard := none }, { dst := none, op := Op.store 2 (Operand.tmp 129) (Operand.tmp 128), type := 0, pos := "l08_mains.go:319", after := #[{ on := 7, ground := Ground.data }, { on := 6, ground := Ground.data }, { on := 4, ground := Ground.chain }, { on := 0, ground := Ground.phase }, { on := 1, ground := Ground.phase }, { on := 2, ground := Ground.phase }, { on := 3, ground := Ground.phase }, { on := 4, ground := Ground.phase }, { on := 5, ground := Ground.phase }, { on := 6, ground := Ground.phase }], guard := none }] true).wp Tryz.prog Q { tmps := #[(.pointer (some ⟨sb, 0, none⟩)), x1, x2, (.pointer (some ⟨R, 0, none⟩)), x4, x5, x6, x7, x8, x9, x10, x11, x12, x13, x14, x15, x16, x17, x18, x19, x20, x21, x22, x23, x24, x25, x26, x27, x28, x29, x30, x31, x32, x33, x34, x35, x36, x37, x38, x39, x40, x41, x42, x43, x44, x45, x46, x47, x48, x49, x50, x51, x52, x53, x54, x55, x56, x57, x58, x59, x60, x61, x62, x63, x64, x65, x66, x67, x68, x69, x70, x71, x72, x73, x74, x75, x76, x77, x78, x79, x80, x81, x82, x83, x84, x85, x86, x87, x88, x89, x90, x91, x92, x93, x94, x95, x96, x97, x98, x99, x100, x101, x102, x103, x104, x105, x106, x107, x108, x109, x110, x111, x112, x113, x114, x115, x116, x117, x118, x119, x120, x121, x122, x123, x124, x125, x126, x127, x128, x129, x130, x131, x132, x133, x134, x135, x136, x137, x138, x139, x140, x141, x142, x143, x144, x145, x146, x147, x148, x149, x150, x151, x152, x153, x154, x155, x156, x157, x158, x159, x160, x161, x162], defers := ds } W0 := by
  refine region_L (fun V => V.rowIs R 27 5 (rowN [.int .i64 nd, .int .i64 hd, pv, lv, wv])) 8 (by kernel_rfl) (nrow_below HR.out (Below.refl _ _).drew) (fun hHeld => ?_)
  obtain ⟨Z, hZ⟩ : ∃ Z, Z = W0.drew := ⟨_, rfl⟩
  replace HM := Lib.hid (HM.out.below (Below.refl _ _).drew)
  replace HR := Lib.hid (nrow_below HR.out (Below.refl _ _).drew)
  rw [← hZ] at hHeld HM HR ⊢
  clear hZ
  refine takeL_do (i := 0) (v := (.pointer (some ⟨R, 0, none⟩))) rfl (by kernel_rfl) (by kernel_rfl) (by kernel_rfl) (by kernel_rfl) (fun _ _ _ h => hP _ _ _ _ _ h) (by rfl) ?_ (by assumption) ?_
  · intro w hSw
    skip
    go_simp
  simp only [Act.put, List.setIfInBounds_toArray, List.set_cons_zero, List.set_cons_succ]
  refine takeL_do (i := 1) (v := (.int .i64 nd)) rfl (by kernel_rfl) (by kernel_rfl) (by kernel_rfl) (by kernel_rfl) (fun _ _ _ h => hP _ _ _ _ _ h) (by rfl) ?_ (by assumption) ?_
  · intro w hSw
    obtain ⟨⟨x0, x1, x2, x3, x4⟩, _⟩ := rowN5 hSw
    go_simp
  simp only [Act.put, List.setIfInBounds_toArray, List.set_cons_zero, List.set_cons_succ]
  refine takeL_do (i := 2) (v := (.int .i64 (nd + 1))) rfl (by kernel_rfl) (by kernel_rfl) (by kernel_rfl) (by kernel_rfl) (fun _ _ _ h => hP _ _ _ _ _ h) (by rfl) ?_ (by assumption) ?_
  · intro w hSw
    skip
    go_simp
    try exact md_wrap (by omega) (by omega)
  simp only [Act.put, List.setIfInBounds_toArray, List.set_cons_zero, List.set_cons_succ]
  refine takeL_do (i := 3) (v := (.pointer (some ⟨sb, 0, none⟩))) rfl (by kernel_rfl) (by kernel_rfl) (by kernel_rfl) (by kernel_rfl) (fun _ _ _ h => hP _ _ _ _ _ h) (by rfl) ?_ (by assumption) ?_
  · intro w hSw
    skip
    go_simp
  simp only [Act.put, List.setIfInBounds_toArray, List.set_cons_zero, List.set_cons_succ]
  refine takeL_call (i := 4) rfl (by kernel_rfl) (fun K2 hK => ?_)
  go_simp
  refine (n_any sb 2 _ HM.out.src.1 (by omega)).mono ?_
  rintro e Z1 ⟨⟨u, rfl, u0, u1, _⟩, hD⟩
  replace HM := Lib.hid (HM.out.draw hD)
  replace HR := Lib.hid (md_chg HR.out (by have := HM.out.rl; have := HM.out.sbl; omega) hD.2)
  have ub : 0 ≤ u ∧ u < 2 := by have := u1 (by omega); omega
  clear hD u0 u1
  go_wp2_with fail
  refine hK.out _ _ HR.out (fun hHeld2 => ?_)
  clear hK hHeld
  have hHeld := hHeld2
  clear hHeld2
  refine takeL_do (i := 5) (v := (.int .i64 (2 * u))) rfl (by kernel_rfl) (by kernel_rfl) (by kernel_rfl) (by kernel_rfl) (fun _ _ _ h => hP _ _ _ _ _ h) (by rfl) ?_ (by assumption) ?_
  · intro w hSw
    skip
    go_simp
    try exact md_wrap (by omega) (by omega)
  simp only [Act.put, List.setIfInBounds_toArray, List.set_cons_zero, List.set_cons_succ]
  refine takeL_do (i := 6) (v := (.int .i64 (nd + 1 - 2 * u))) rfl (by kernel_rfl) (by kernel_rfl) (by kernel_rfl) (by kernel_rfl) (fun _ _ _ h => hP _ _ _ _ _ h) (by rfl) ?_ (by assumption) ?_
  · intro w hSw
    skip
    go_simp
    try exact md_wrap (by omega) (by omega)
  simp only [Act.put, List.setIfInBounds_toArray, List.set_cons_zero, List.set_cons_succ]
  refine takeL_do (i := 7) (v := (.pointer (some ⟨R, 0, none⟩))) rfl (by kernel_rfl) (by kernel_rfl) (by kernel_rfl) (by kernel_rfl) (fun _ _ _ h => hP _ _ _ _ _ h) (by rfl) ?_ (by assumption) ?_
  · intro w hSw
    skip
    go_simp
  simp only [Act.put, List.setIfInBounds_toArray, List.set_cons_zero, List.set_cons_succ]
  obtain ⟨⟨o0, o1, o2, o3, o4⟩, z0, z1, z2, z3, z4⟩ := rowN5 HR.out
  have l0 := HR.out.lt
  obtain ⟨WZ, hWZ⟩ : ∃ WZ, WZ = Z1.setCell ⟨R, 0, none⟩ (.int .i64 (nd + 1 - 2 * u)) := ⟨_, rfl⟩
  have HX : Hid (MF w sb R WZ) := by
    refine ⟨nd + 1 - 2 * u, hd, pv, lv, wv, pn, wn, ps, ws, qs, ?_, ?_, by have := HLN.out; omega, by have := HLN.out; omega, by have := HLN.out; omega, fun x hx => by have := HLN.out.2.2.2 x hx; omega⟩
    · rw [hWZ]; exact HM.out.whole.put HR.out _
    · rw [hWZ]; exact rowN_put HR.out 0 _ (by simp)
  have HWZ := Lib.hid hWZ
  clear hWZ
  refine takeL_last rfl (by kernel_rfl) (by kernel_rfl) (fun K2 hK => ?_)
  go_simp
  rw [← HWZ.out]
  refine hK.out _ _ ?_
  clear hK hHeld HWZ o0 o1 o2 o3 o4 z0 z1 z2 z3 z4 l0 HM HR
  exact hQ _ _ _ _ _ _ _ _ WZ HX
end Go.Proofs.YtfgmalnkpgloiaaGreatDoor
namespace Go.Proofs.YtfgmalnkpgloiaaGreatDoor
open Go Go.RowKit Go.Deep

theorem d_far {B n size : Nat} {e : TypeId} {v : Value} {xs : List Value} {W W' : World} (h : W.ownsRow B e size v n xs) (hb : ∀ k, v.ownBlock = some k → k < W.heap.size → W'.heap[k]? = W.heap[k]?) : W'.ownsRow B e size v n xs := by
  obtain ⟨h1, h2⟩ := h
  refine ⟨h1, ?_⟩
  rcases h2 with h2 | ⟨g, cap, cur, e1, e2, e3, e4⟩
  · exact Or.inl h2
  · refine Or.inr ⟨g, cap, cur, e1, e2, ?_, e4⟩
    have hlt : g < W.heap.size := by
      rcases Nat.lt_or_ge g W.heap.size with h | h
      · exact h
      · rw [Array.getElem?_eq_none h] at e3; cases e3
    rw [hb g (by rw [e1]; rfl) hlt]; exact e3
theorem d_shape {B n size : Nat} {e : TypeId} {v : Value} {xs : List Value} {W : World} (h : W.ownsRow B e size v n xs) : ∃ a c, v = .slice a n c := by
  rcases h.2 with h | ⟨g, cp, _, e, _⟩
  · exact ⟨none, 0, by rw [h.1, h.2]⟩
  · exact ⟨_, _, e⟩

set_option maxHeartbeats 1000000 in
theorem dbetween_any (sb : Nat) (w : World) (h : Src sb w) :
    Calls Tryz.prog 82 #[.pointer (some ⟨sb, 0, none⟩), .int .i64 (-3), .int .i64 3] w fun e w' => (∃ v, e = .returned (.int .i64 v)) ∧ Drew sb w w' := by
  have H : Hid (Src sb w) := h
  clear h
  go_enter Tryz.func82, Tryz.ntmps82
  go_wp2_with fail
  refine (n_any sb _ _ H.out (by omega)).mono ?_
  rintro e w' ⟨⟨v, rfl, v0, v1, _⟩, hD⟩
  have HD : Hid (Drew sb w w') := hD
  clear hD
  have v2 := v1 (by omega)
  clear v1
  go_wp2_with fail
  go_ret
  exact ⟨⟨_, rfl⟩, HD.out⟩

/-- What the drawing of a list keeps: the list so far, the source, the old memory. -/
def DL (w : World) (sb : Nat) (v : Value) (zs : List Int) (W : World) : Prop := W.ownsRow w.heap.size 2 1 v zs.length (zs.map (Value.int .i64)) ∧ Drew sb w W ∧ sb < w.heap.size
theorem DL.draw {w : World} {sb : Nat} {v : Value} {zs : List Int} {W W' : World} (h : DL w sb v zs W) (hd : Drew sb W W') : DL w sb v zs W' :=
  ⟨d_far h.1 (fun k hk hl => hd.2.2.2.2.2 k hl (by have := (h.1.lt k hk).1; have := h.2.2; omega)), ⟨hd.1, h.2.1.2.trans hd.2⟩, h.2.2⟩
theorem DL.push {w : World} {sb : Nat} {v v' : Value} {zs : List Int} {x : Int} {W W' : World} {o : Obj} (h : DL w sb v zs W) (hg : (W.alloc o).grownBy W' v.ownBlock)
    (hown : W'.ownsRow w.heap.size 2 1 v' (zs.length + 1) (zs.map (Value.int .i64) ++ [.int .i64 x])) : DL w sb v' (zs ++ [x]) W' := by
  have hz := h.2.1.2.size
  have hrow : ∀ k, v.ownBlock = some k → w.heap.size ≤ k := fun k e => (h.1.lt k e).1
  have hk : ∀ k, k < w.heap.size → W'.heap[k]? = W.heap[k]? := fun k hk => by
    rw [hg.block k (by simp; omega) (fun e => by have := hrow k e.symm; omega)]
    exact blk_alloc_lt _ _ _ (by omega)
  refine ⟨by simpa using hown, ⟨h.2.1.1.keep (fun k hk2 => hk k (by have := h.2.2; omega)), ?_⟩, h.2.2⟩
  exact ⟨hg.os.trans h.2.1.2.1, hg.tape.trans h.2.1.2.2.1, hg.output.trans h.2.1.2.2.2.1, by have := hg.size; simp at this; omega, fun k hk1 hk2 => (hk k hk1).trans (h.2.1.2.2.2.2.2 k hk1 hk2)⟩
theorem dl_start {w : World} {sb : Nat} (h : Src sb w) : DL w sb (.slice (some ⟨w.heap.size, 0, none⟩) 0 0) [] (w.alloc (.cells #[] 2)) :=
  ⟨World.ownsRow_made w #[] 0 (Nat.le_refl _) (Nat.zero_le _) rfl, ⟨h.below ((Below.refl _ _).alloc (Nat.le_refl _) _), Chg.of_below ((Below.refl _ _).alloc (Nat.le_refl _) _)⟩, h.lt⟩

set_option maxRecDepth 100000 in
set_option maxHeartbeats 2000000 in
theorem dlist_any (sb N : Nat) (hN : N ≤ 1000) (w : World) (h : Src sb w) :
    Calls Tryz.prog 59 #[.pointer (some ⟨sb, 0, none⟩), .int .i64 N, .int .i64 (-3), .int .i64 3] w fun e w' => ∃ v, e = .returned v ∧ ∃ zs : List Int, zs.length = N ∧ DL w sb v zs w' := by
  have H : Hid (Src sb w) := h
  have hlt := h.lt
  clear h
  obtain ⟨i0, hi, hz0, hz1, hz2⟩ := info_parts lpinfo_int
  go_enter Tryz.func59, Tryz.ntmps59
  go_wp2_with fail
  go_loopw [1, 9] (fun nv ov wr => ∃ (m : Nat) (zs : List Int), nv = .int .i64 m ∧ m ≤ 1000 ∧ Hid (m + zs.length = N) ∧ Hid (DL w sb ov zs wr)) (fun nv _ _ => (intOf nv).toNat)
  case atStart => exact ⟨N, [], rfl, hN, by show _ = _; simp, dl_start H.out⟩
  case round =>
    obtain ⟨m, zs, rfl, m1, hm, hF⟩ := hrel
    obtain ⟨av, cv, rfl⟩ := d_shape hF.out.1
    by_cases hlt2 : 0 < m
    · have hltz : 0 < (m : Int) := by omega
      go_wp2_with fail
      refine (dbetween_any sb _ hF.out.2.1.1).mono ?_
      rintro e w1 ⟨⟨x, rfl⟩, hD⟩
      have HF1 : Hid (DL w sb _ zs w1) := hF.out.draw hD
      clear hD hF
      go_wp2_with (at_builtin; refine wpList_append_own _ rfl _ _ 25 rfl w.heap.size 2 i0 (.int .i64 0) 1 8 Tryz.underlying25 hi hz0 hz1 hz2 rfl (by decide) _ _ _ rfl (HF1.out.1.alloc _) ⟨w1.heap.size, 0, none⟩ 1 1 [.int .i64 x] rfl rfl ?c1 ?c2 ?c3 ?c4 ?c5 ?_)
      try (case c1 => (intro j u hj; match j, hj with
        | 0, hj => (simp at hj; subst hj; simp [Addr.add])))
      try (case c2 => first | rfl | (intro u hu; simp at hu; subst hu; rfl))
      try (case c3 => (have := hm.out; unfold maxLen; omega))
      try (case c4 => (have := hm.out; omega))
      try (case c5 => (have := HF1.out.2.1.2.size; first | omega | (simp; omega)))
      intro v' w2 hown hgrow hnil
      have HF2 : Hid (DL w sb v' (zs ++ [x]) w2) := HF1.out.push hgrow hown
      clear hown hgrow hnil HF1
      go_wp2_with fail
      go_roundw
      case rel => exact ⟨m - 1, zs ++ [x], by go_num, by omega, by show _ = _; have := hm.out; simp; omega, HF2⟩
      case measure => simp [intOf]; omega
    · obtain rfl : m = 0 := by omega
      go_wp2_with fail
      go_ret
      exact ⟨_, rfl, zs, by have := hm.out; omega, hF.out⟩
end Go.Proofs.YtfgmalnkpgloiaaGreatDoor
namespace Go.Proofs.YtfgmalnkpgloiaaGreatDoor
open Go Go.RowKit Go.Deep

set_option maxRecDepth 100000 in
set_option maxHeartbeats 32000000 in
theorem reg31 {w : World} (sb R : Nat) (nd hd : Int) (pv wv : Value) (la : Option Addr) (lk pn wn : Nat) (ps ws : List Int) (qs : List (Value × List Int)) (x1 x2 x4 x5 x6 x7 x8 x9 x10 x11 x12 x13 x14 x15 x16 x17 x18 x19 x20 x21 x22 x23 x24 x25 x26 x27 x28 x29 x30 x31 x32 x33 x34 x35 x36 x37 x38 x39 x40 x41 x42 x43 x44 x45 x46 x47 x48 x49 x50 x51 x52 x53 x54 x55 x56 x57 x58 x59 x60 x61 x62 x63 x64 x65 x66 x67 x68 x69 x70 x71 x72 x73 x74 x75 x76 x77 x78 x79 x80 x81 x82 x83 x84 x85 x86 x87 x88 x89 x90 x91 x92 x93 x94 x95 x96 x97 x98 x99 x100 x101 x102 x103 x104 x105 x106 x107 x108 x109 x110 x111 x112 x113 x114 x115 x116 x117 x118 x119 x120 x121 x122 x123 x124 x125 x126 x127 x128 x129 x130 x131 x132 x133 x134 x135 x136 x137 x138 x139 x140 x141 x142 x143 x144 x145 x146 x147 x148 x149 x150 x151 x152 x153 x154 x155 x156 x157 x158 x159 x160 x161 x162 : Value) (ds : _) (Q : Exit → Act → World → Prop) (W0 : World)
    (HM : Hid (MM w sb R pv (.slice la qs.length lk) wv pn wn ps ws qs W0)) (HR : Hid (W0.rowIs R 27 5 (rowN [.int .i64 nd, .int .i64 hd, pv, (.slice la qs.length lk), wv]))) (HLN : Hid (pn ≤ 900 ∧ wn ≤ 900 ∧ qs.length ≤ 900 ∧ ∀ x, x ∈ qs → x.2.length ≤ 900)) (hP : ∀ c (a : Act) o v w, Q (.panic c) (a.put o v) w → Q (.panic c) a w)
    (hQ : ∀ (y147 y148 y149 y150 y151 y152 y153 y154 y155 y156 : Value) (WZ : World), Hid (MF w sb R WZ) → Q .normal { tmps := #[(.pointer (some ⟨sb, 0, none⟩)), x1, x2, (.pointer (some ⟨R, 0, none⟩)), x4, x5, x6, x7, x8, x9, x10, x11, x12, x13, x14, x15, x16, x17, x18, x19, x20, x21, x22, x23, x24, x25, x26, x27, x28, x29, x30, x31, x32, x33, x34, x35, x36, x37, x38, x39, x40, x41, x42, x43, x44, x45, x46, x47, x48, x49, x50, x51, x52, x53, x54, x55, x56, x57, x58, x59, x60, x61, x62, x63, x64, x65, x66, x67, x68, x69, x70, x71, x72, x73, x74, x75, x76, x77, x78, x79, x80, x81, x82, x83, x84, x85, x86, x87, x88, x89, x90, x91, x92, x93, x94, x95, x96, x97, x98, x99, x100, x101, x102, x103, x104, x105, x106, x107, x108, x109, x110, x111, x112, x113, x114, x115, x116, x117, x118, x119, x120, x121, x122, x123, x124, x125, x126, x127, x128, x129, x130, x131, x132, x133, x134, x135, x136, x137, x138, x139, x140, x141, x142, x143, x144, x145, x146, y147, y148, y149, y150, y151, y152, y153, y154, y155, y156, x157, x158, x159, x160, x161, x162], defers := ds } WZ) :
    (Code.region 31 #[{ dst := some 147, op := Op.fieldAddr 27 (Operand.tmp 3) 3, type := 0, pos := "l08_mains.go:315", after := #[], guard := none }, { dst := some 148, op := Op.load 24 (Operand.tmp 147), type := 24, pos := "l08_mains.go:315", after := #[{ on := 0, ground := Ground.data }], guard := none }, { dst := some 149, op := Op.move (Operand.tmp 0), type := 55, pos := "l08_mains.go:315", after := #[], guard := none }, { dst := some 150, op := Op.move (Operand.tmp 0), type := 55, pos := "l08_mains.go:315", after := #[], guard := none }, { dst := some 151, op := Op.call { callee := Callee.value (Operand.func 31), args := #[Operand.tmp 150, Operand.const (Value.int IntKind.i64 3)], argTypes := #[55, 2] }, type := 2, pos := "l08_mains.go:315", after := #[{ on := 3, ground := Ground.data }], guard := none }, { dst := some 152, op := Op.binOp BinOp.add 2 (Operand.const (Value.int IntKind.i64 1)) (Operand.tmp 151) 2, type := 2, pos := "l08_mains.go:315", after := #[{ on := 4, ground := Ground.data }], guard := none }, { dst := some 153, op := Op.call { callee := Callee.value (Operand.func 59), args := #[Operand.tmp 149, Operand.tmp 152, Operand.const (Value.int IntKind.i64 (-3)), Operand.const (Value.int IntKind.i64 3)], argTypes := #[55, 2, 2, 2] }, type := 25, pos := "l08_mains.go:315", after := #[{ on := 2, ground := Ground.data }, { on := 5, ground := Ground.data }, { on := 4, ground := Ground.chain }], guard := none }, { dst := some 154, op := Op.buildSlice 24 1 #[(0, Operand.tmp 153)], type := 24, pos := "l08_mains.go:315", after := #[{ on := 6, ground := Ground.data }], guard := none }, { dst := some 155, op := Op.call { callee := Callee.builtin Builtin.append, args := #[Operand.tmp 148, Operand.tmp 154], argTypes := #[24, 24] }, type := 24, pos := "l08_mains.go:315", after := #[{ on := 1, ground := Ground.data }, { on := 7, ground := Ground.data }, { on := 6, ground := Ground.chain }], guard := none }, { dst := some 156, op := Op.fieldAddr 27 (Operand.tmp 3) 3, type := 0, pos := "l08_mains.go:315", after := #[{ on := 0, ground := Ground.phase }, { on := 1, ground := Ground.phase }, { on := 2, ground := Ground.phase }, { on := 3, ground := Ground.phase }, { on := 4, ground := Ground.phase }, { on := 5, ground := Ground.phase }, { on := 6, ground := Ground.phase }, { on := 7, ground := Ground.phase }, { on := 8, ground := Ground.phase }], guard := none }, { dst := none, op := Op.store 24 (Operand.tmp 156) (Operand.tmp 155), type := 0, pos := "l08_mains.go:315", after := #[{ on := 9, ground := Ground.data }, { on := 8, ground := Ground.data }, { on := 8, ground := Ground.chain }, { on := 0, ground := Ground.phase }, { on := 1, ground := Ground.phase }, { on := 2, ground := Ground.phase }, { on := 3, ground := Ground.phase }, { on := 4, ground := Ground.phase }, { on := 5, ground := Ground.phase }, { on := 6, ground := Ground.phase }, { on := 7, ground := Ground.phase }, { on := 8, ground := Ground.phase }], guard := none }] true).wp Tryz.prog Q { tmps := #[(.pointer (some ⟨sb, 0, none⟩)), x1, x2, (.pointer (some ⟨R, 0, none⟩)), x4, x5, x6, x7, x8, x9, x10, x11, x12, x13, x14, x15, x16, x17, x18, x19, x20, x21, x22, x23, x24, x25, x26, x27, x28, x29, x30, x31, x32, x33, x34, x35, x36, x37, x38, x39, x40, x41, x42, x43, x44, x45, x46, x47, x48, x49, x50, x51, x52, x53, x54, x55, x56, x57, x58, x59, x60, x61, x62, x63, x64, x65, x66, x67, x68, x69, x70, x71, x72, x73, x74, x75, x76, x77, x78, x79, x80, x81, x82, x83, x84, x85, x86, x87, x88, x89, x90, x91, x92, x93, x94, x95, x96, x97, x98, x99, x100, x101, x102, x103, x104, x105, x106, x107, x108, x109, x110, x111, x112, x113, x114, x115, x116, x117, x118, x119, x120, x121, x122, x123, x124, x125, x126, x127, x128, x129, x130, x131, x132, x133, x134, x135, x136, x137, x138, x139, x140, x141, x142, x143, x144, x145, x146, x147, x148, x149, x150, x151, x152, x153, x154, x155, x156, x157, x158, x159, x160, x161, x162], defers := ds } W0 := by
  obtain ⟨i0, hi0, hi1, hi2, hi3⟩ := info_parts lpinfo_is
  refine region_L (fun V => V.rowIs R 27 5 (rowN [.int .i64 nd, .int .i64 hd, pv, (.slice la qs.length lk), wv])) 10 (by kernel_rfl) (nrow_below HR.out (Below.refl _ _).drew) (fun hHeld => ?_)
  obtain ⟨Z, hZ⟩ : ∃ Z, Z = W0.drew := ⟨_, rfl⟩
  replace HM := Lib.hid (HM.out.below (Below.refl _ _).drew)
  replace HR := Lib.hid (nrow_below HR.out (Below.refl _ _).drew)
  rw [← hZ] at hHeld HM HR ⊢
  clear hZ
  refine takeL_do (i := 0) (v := (.pointer (some ⟨R, 3, none⟩))) rfl (by kernel_rfl) (by kernel_rfl) (by kernel_rfl) (by kernel_rfl) (fun _ _ _ h => hP _ _ _ _ _ h) (by rfl) ?_ (by assumption) ?_
  · intro w hSw
    skip
    go_simp
  simp only [Act.put, List.setIfInBounds_toArray, List.set_cons_zero, List.set_cons_succ]
  refine takeL_do (i := 1) (v := (.slice la qs.length lk)) rfl (by kernel_rfl) (by kernel_rfl) (by kernel_rfl) (by kernel_rfl) (fun _ _ _ h => hP _ _ _ _ _ h) (by rfl) ?_ (by assumption) ?_
  · intro w hSw
    obtain ⟨⟨x0, x1, x2, x3, x4⟩, _⟩ := rowN5 hSw
    go_simp
  simp only [Act.put, List.setIfInBounds_toArray, List.set_cons_zero, List.set_cons_succ]
  refine takeL_do (i := 2) (v := (.pointer (some ⟨sb, 0, none⟩))) rfl (by kernel_rfl) (by kernel_rfl) (by kernel_rfl) (by kernel_rfl) (fun _ _ _ h => hP _ _ _ _ _ h) (by rfl) ?_ (by assumption) ?_
  · intro w hSw
    skip
    go_simp
  simp only [Act.put, List.setIfInBounds_toArray, List.set_cons_zero, List.set_cons_succ]
  refine takeL_do (i := 3) (v := (.pointer (some ⟨sb, 0, none⟩))) rfl (by kernel_rfl) (by kernel_rfl) (by kernel_rfl) (by kernel_rfl) (fun _ _ _ h => hP _ _ _ _ _ h) (by rfl) ?_ (by assumption) ?_
  · intro w hSw
    skip
    go_simp
  simp only [Act.put, List.setIfInBounds_toArray, List.set_cons_zero, List.set_cons_succ]
  refine takeL_call (i := 4) rfl (by kernel_rfl) (fun K2 hK => ?_)
  go_simp
  refine (n_any sb 3 _ HM.out.src.1 (by omega)).mono ?_
  rintro e Z1 ⟨⟨u, rfl, u0, u1, _⟩, hD⟩
  replace HM := Lib.hid (HM.out.draw hD)
  replace HR := Lib.hid (md_chg HR.out (by have := HM.out.rl; have := HM.out.sbl; omega) hD.2)
  have ub : 0 ≤ u ∧ u < 3 := by have := u1 (by omega); omega
  clear hD u0 u1
  go_wp2_with fail
  refine hK.out _ _ HR.out (fun hHeld2 => ?_)
  clear hK hHeld
  have hHeld := hHeld2
  clear hHeld2
  refine takeL_do (i := 5) (v := (.int .i64 (1 + u))) rfl (by kernel_rfl) (by kernel_rfl) (by kernel_rfl) (by kernel_rfl) (fun _ _ _ h => hP _ _ _ _ _ h) (by rfl) ?_ (by assumption) ?_
  · intro w hSw
    skip
    go_simp
    try exact md_wrap (by omega) (by omega)
  simp only [Act.put, List.setIfInBounds_toArray, List.set_cons_zero, List.set_cons_succ]
  obtain ⟨N, hN, hN3⟩ : ∃ N : Nat, 1 + u = (N : Int) ∧ N ≤ 3 := ⟨(1 + u).toNat, by omega, by omega⟩
  rw [hN]
  clear hN
  refine takeL_call (i := 6) rfl (by kernel_rfl) (fun K2 hK => ?_)
  go_simp
  refine (dlist_any sb N (by omega) _ HM.out.src.1).mono ?_
  rintro e Z2 ⟨v, rfl, zs, rfl, hown, hD, _⟩
  have HJ : Hid (OwnJ w.heap.size v zs Z2) := lpown_low hown HM.out.src.2.size
  obtain ⟨va, vc, rfl⟩ := lpown_shape hown
  replace HM := Lib.hid (HM.out.draw hD)
  replace HR := Lib.hid (md_chg HR.out (by have := HM.out.rl; have := HM.out.sbl; omega) hD.2)
  clear hD hown
  go_wp2_with fail
  refine hK.out _ _ HR.out (fun hHeld2 => ?_)
  clear hK hHeld
  have hHeld := hHeld2
  clear hHeld2
  refine takeL_call (i := 7) rfl (by kernel_rfl) (fun K2 hK => ?_)
  obtain ⟨Z3, hZ3⟩ : ∃ Z3, Z3 = Z2.alloc (.cells #[.slice va zs.length vc] 25) := ⟨_, rfl⟩
  have hb : Below Z2.heap.size Z2 Z3 := by rw [hZ3]; exact nbel_alloc _ _
  obtain ⟨gs, hgs⟩ : ∃ gs, gs = Z2.heap.size := ⟨_, rfl⟩
  have HL : Hid (Z3.cell? ⟨gs, 0, none⟩ = some (.slice va zs.length vc)) := by
    show _ = _
    rw [hZ3, hgs]
    exact (rowN_alloc Z2 [.slice va zs.length vc] 25).cell (i := 0) (by simp)
  replace HM := Lib.hid (HM.out.below hb)
  replace HR := Lib.hid (nrow_below HR.out hb)
  replace HJ := Lib.hid (lpown_below HJ.out hb)
  go_simp
  rw [← hZ3, ← hgs]
  refine hK.out _ _ HR.out (fun hHeld2 => ?_)
  clear hK hHeld
  have hHeld := hHeld2
  clear hHeld2
  clear hb hZ3 hgs
  refine takeL_call (i := 8) rfl (by kernel_rfl) (fun K2 hK => ?_)
  refine mdap rfl (.tmp 148) (.tmp 154) 24 rfl w.heap.size 25 i0 (.slice none 0 0) 1 24 Tryz.underlying24 hi0 hi1 hi2 hi3 rfl (by decide) _ qs.length _ rfl HM.out.lo ⟨gs, 0, none⟩ 1 1 [.slice va zs.length vc] rfl rfl ?_ ?_ (by have := HLN.out.2.2.1; unfold maxLen; omega) (by have := HLN.out.2.2.1; omega) HM.out.src.2.size ?_
  · have c0 := HL.out
    intro j u hj
    match j, hj with
    | 0, hj => simp at hj; subst hj; simpa [Addr.add] using c0
  · intro u hu; simp at hu; subst hu; rfl
  intro v' Z4 hown hgrow
  obtain ⟨a8, c8, rfl⟩ := lpown_shape hown
  replace HR := Lib.hid (md_row HR.out HM.out.lo (by decide) hgrow)
  have HW2 := Lib.hid (HM.out.loop (x := (.slice va zs.length vc, zs)) HJ.out hgrow hown)
  clear HM HJ
  refine hK.out _ _ HR.out (fun hHeld2 => ?_)
  clear hK hHeld hown hgrow HL
  have hHeld := hHeld2
  clear hHeld2
  simp only [Act.put, List.setIfInBounds_toArray, List.set_cons_zero, List.set_cons_succ]
  refine takeL_do (i := 9) (v := (.pointer (some ⟨R, 3, none⟩))) rfl (by kernel_rfl) (by kernel_rfl) (by kernel_rfl) (by kernel_rfl) (fun _ _ _ h => hP _ _ _ _ _ h) (by rfl) ?_ (by assumption) ?_
  · intro w hSw
    skip
    go_simp
  simp only [Act.put, List.setIfInBounds_toArray, List.set_cons_zero, List.set_cons_succ]
  obtain ⟨⟨o0, o1, o2, o3, o4⟩, z0, z1, z2, z3, z4⟩ := rowN5 HR.out
  have l0 := HR.out.lt
  obtain ⟨WZ, hWZ⟩ : ∃ WZ, WZ = Z4.setCell ⟨R, 3, none⟩ (.slice a8 (qs.length + 1) c8) := ⟨_, rfl⟩
  have HX : Hid (MF w sb R WZ) := by
    refine ⟨nd, hd, pv, .slice a8 (qs.length + 1) c8, wv, pn, wn, ps, ws, qs ++ [(.slice va zs.length vc, zs)], ?_, ?_, by have := HLN.out; omega, by have := HLN.out; omega, by have := HLN.out.2.2.1; simp; omega, fun x hx => ?_⟩
    · rw [hWZ]; exact HW2.out.put HR.out _
    · rw [hWZ]; exact rowN_put HR.out 3 _ (by simp)
    · rcases List.mem_append.1 hx with hx | hx
      · have := HLN.out.2.2.2 x hx; omega
      · obtain rfl : x = _ := by simpa using hx
        show zs.length ≤ 1000
        omega
  have HWZ := Lib.hid hWZ
  clear hWZ
  refine takeL_last rfl (by kernel_rfl) (by kernel_rfl) (fun K2 hK => ?_)
  go_simp
  rw [← HWZ.out]
  refine hK.out _ _ ?_
  clear hK hHeld HWZ o0 o1 o2 o3 o4 z0 z1 z2 z3 z4 l0 HW2 HR
  exact hQ _ _ _ _ _ _ _ _ _ _ WZ HX
end Go.Proofs.YtfgmalnkpgloiaaGreatDoor
namespace Go.Proofs.YtfgmalnkpgloiaaGreatDoor
open Go Go.RowKit Go.Deep

theorem md_one2 (w : World) (o : Obj) (T : TypeId) (v : Value) : ∀ j u, [v][j]? = some u → ((w.alloc o).alloc (.cells #[v] T)).cell? ((⟨w.heap.size + 1, 0, none⟩ : Addr).add j) = some u := by
  have := cell_one_new (w.alloc o) v T
  rw [World.size_alloc] at this
  exact this
theorem md_lit2 {B : Nat} (w : World) (o : Obj) (hB : B ≤ w.heap.size) : OwnJ B (.slice (some ⟨w.heap.size, 0, none⟩) 2 2) [1, -1] ((w.alloc (.cells #[.int .i64 1, .int .i64 (-1)] 2)).alloc o) := by
  refine lpown_below (W := w.alloc (.cells #[.int .i64 1, .int .i64 (-1)] 2)) ?_ (nbel_alloc _ _)
  exact ⟨rfl, .inr ⟨w.heap.size, 2, #[.int .i64 1, .int .i64 (-1)], rfl, hB, heap_alloc_new w _, Nat.le_refl _, by decide, rfl, rfl⟩⟩
theorem dmin_any (a b : Int) (w : World) : Calls Tryz.prog 50 #[.int .i64 a, .int .i64 b] w fun e w' => e = .returned (.int .i64 (min a b)) ∧ w' = w := by
  by_cases h : a < b
  · have HE : Hid (min a b = a) := by show _ = _; omega
    go_enter Tryz.func50, Tryz.ntmps50
    go_wp2_with fail
    go_ret
    exact ⟨by rw [HE.out]; rfl, rfl⟩
  · have HE : Hid (min a b = b) := by show _ = _; omega
    go_enter Tryz.func50, Tryz.ntmps50
    go_wp2_with fail
    go_ret
    exact ⟨by rw [HE.out]; rfl, rfl⟩
set_option maxRecDepth 100000 in
set_option maxHeartbeats 16000000 in
theorem dmains_any (sb : Nat) (w : World) (hS : Src sb w) :
    Calls Tryz.prog 29 #[.pointer (some ⟨sb, 0, none⟩)] w fun e w' => MdEnd w sb e w' := by
  obtain ⟨i0, hi0, hi1, hi2, hi3⟩ := info_parts lpinfo_int
  obtain ⟨j0, hj0, hj1, hj2, hj3⟩ := info_parts pinfo
  obtain ⟨k0, hk0, hk1, hk2, hk3⟩ := info_parts lpinfo_is
  have hsb := hS.lt
  obtain ⟨W0, hW0⟩ : ∃ W0, W0 = w.alloc (.cells #[.int .i64 0, .int .i64 0, .slice none 0 0, .slice none 0 0, .slice none 0 0] 27) := ⟨_, rfl⟩
  have hb : Below w.heap.size w W0 := by rw [hW0]; exact nbel_alloc _ _
  have HSR : Hid (Drew sb w W0) := ⟨hS.below hb, Chg.of_below hb⟩
  have HRS : Hid (W0.rowIs w.heap.size 27 5 (rowN [.int .i64 0, .int .i64 0, .slice none 0 0, .slice none 0 0, .slice none 0 0])) := by show World.rowIs _ _ _ _ _; rw [hW0]; exact rowN_alloc w _ _
  obtain ⟨size, c3, hz0, hz1⟩ := md_size HSR.out.1
  rw [hW0] at c3
  obtain ⟨q0, hq0⟩ : ∃ q, q = size.tdiv 2 := ⟨_, rfl⟩
  have hq2 : 0 ≤ q0 ∧ q0 ≤ 6 := by rw [hq0, Int.tdiv_eq_ediv_of_nonneg hz0]; omega
  have hqr : size.tdiv 2 = q0 := hq0.symm
  have HW := Lib.hid hW0
  clear hS hq0 hb hW0
  go_enter Tryz.func29, Tryz.ntmps29
  go_wp2_with fail
  rw [← HW.out]
  clear HW c3
  refine (n_any sb _ _ HSR.out.1 (by omega)).mono ?_
  rintro e w1 ⟨⟨v, rfl, v0, v1, _⟩, hD⟩
  have hv : v < 9 := by have := v1 (by omega); omega
  replace HSR := Lib.hid (HSR.out.to8 hD)
  replace HRS := Lib.hid (md_chg HRS.out (by omega) hD.2)
  clear hD v1 hqr hz0 hz1 hq2
  go_wp2_with fail
  refine (n_any sb _ _ HSR.out.1 (by omega)).mono ?_
  rintro e w2 ⟨⟨hd, rfl, hd0, hd1, _⟩, hD⟩
  replace HSR := Lib.hid (HSR.out.to8 hD)
  replace HRS := Lib.hid (md_chg HRS.out (by omega) hD.2)
  clear hD hd1
  obtain ⟨R, hR⟩ : ∃ R, R = w2.heap.size := ⟨_, rfl⟩
  obtain ⟨W2, hW2⟩ : ∃ W, W = w2.alloc (.cells #[.int .i64 (1 + v), .int .i64 hd, .slice none 0 0, .slice none 0 0, .slice none 0 0] 27) := ⟨_, rfl⟩
  have hb2 : Below w2.heap.size w2 W2 := by rw [hW2]; exact nbel_alloc _ _
  have HR : Hid (W2.rowIs R 27 5 (rowN [.int .i64 (1 + v), .int .i64 hd, .slice none 0 0, .slice none 0 0, .slice none 0 0])) := by show World.rowIs _ _ _ _ _; rw [hW2, hR]; exact rowN_alloc w2 _ _
  have HM : Hid (MM w sb R (.slice none 0 0) (.slice none 0 0) (.slice none 0 0) 0 0 [] [] [] W2) := by
    have h1 : Drew sb w W2 := ⟨HSR.out.1.below hb2, HSR.out.2.trans (Chg.of_below hb2)⟩
    exact ⟨h1, hsb, by have := HRS.out.lt; omega, nrow_below HRS.out hb2, World.ownsRow_nil _ _ _ _, World.ownsRow_nil _ _ _ _, World.ownsRow_nil _ _ _ _, w.heap.size, Nat.le_refl _, fun k e => (by cases e), fun x hx => (by cases hx)⟩
  have HW := Lib.hid hW2
  have HRE := Lib.hid hR
  clear hb2 hW2 hR HSR HRS
  go_wp2_with fail
  rw [← HW.out, ← HRE.out]
  clear HW HRE
  refine (one_any sb 30 _ HM.out.src.1 (by omega)).mono ?_
  rintro e w3 ⟨⟨bb, rfl⟩, hD⟩
  replace HM := Lib.hid (HM.out.draw hD)
  replace HR := Lib.hid (md_chg HR.out (by have := HM.out.rl; omega) hD.2)
  clear hD
  go_upto_if 22 with fail
  go_cut [] (fun V => ∃ nd : Int, 1 ≤ nd ∧ nd ≤ 13 ∧ Hid (MM w sb R (.slice none 0 0) (.slice none 0 0) (.slice none 0 0) 0 0 [] [] [] V) ∧ Hid (V.rowIs R 27 5 (rowN [.int .i64 nd, .int .i64 hd, .slice none 0 0, .slice none 0 0, .slice none 0 0])))
  case first =>
    cases bb with
    | true =>
      go_wp2_with fail
      refine (n_any sb 3 _ HM.out.src.1 (by omega)).mono ?_
      rintro e w4 ⟨⟨x, rfl, x0, x1, _⟩, hD⟩
      have hx : x < 3 := x1 (by omega)
      replace HM := Lib.hid (HM.out.draw hD)
      replace HR := Lib.hid (md_chg HR.out (by have := HM.out.rl; omega) hD.2)
      clear hD x1
      obtain ⟨⟨y0, y1, y2, y3, y4⟩, f0, f1, f2, f3, f4⟩ := rowN5 HR.out
      have hl0 := HR.out.lt
      have HM2 := Lib.hid (HM.out.set HR.out (i := 0) (.int .i64 (11 + x)))
      have HR2 := Lib.hid (rowN_put HR.out 0 (.int .i64 (11 + x)) (by simp))
      clear HM HR
      go_wp2_with fail
      go_meet
      case rel => exact ⟨11 + x, by omega, by omega, HM2, HR2⟩
    | false =>
      go_wp2_with fail
      go_meet
      case rel => exact ⟨1 + v, by omega, by omega, HM, HR⟩
  case rest =>
  obtain ⟨nd, hnd0, hnd1, hM, hR⟩ := hcut
  clear HM HR v0 hv
  have HM := hM
  have HR := hR
  clear hM hR
  obtain ⟨W4, hW4⟩ : ∃ W, W = wc := ⟨_, rfl⟩
  rw [← hW4] at HM HR ⊢
  clear hW4
  obtain ⟨⟨y0, y1, y2, y3, y4⟩, _⟩ := rowN5 HR.out
  go_wp2_with fail
  clear y0 y1 y2 y3 y4
  refine (dmin_any _ _ _).mono ?_
  rintro e w5 ⟨rfl, hw5⟩
  subst hw5
  obtain ⟨T, hT1, hT2, hTe⟩ : ∃ T : Nat, 1 ≤ T ∧ T ≤ 12 ∧ min nd 12 = (T : Int) := ⟨(min nd 12).toNat, by omega, by omega, by omega⟩
  rw [hTe]
  clear hTe
  go_wp2_with fail
  go_loopw [5, 6, 7] (fun iv _ _ wr => ∃ (i pn : Nat) (pv : Value) (ps : List Int), iv = .int .i64 i ∧ 1 ≤ i ∧ i ≤ T ∧ PU i pn ps ∧ Hid (MM w sb R pv (.slice none 0 0) (.slice none 0 0) pn 0 ps [] [] wr) ∧ Hid (wr.rowIs R 27 5 (rowN [.int .i64 nd, .int .i64 hd, pv, .slice none 0 0, .slice none 0 0]))) (fun iv _ _ _ => T - (intOf iv).toNat)
  case atStart => exact ⟨1, 0, .slice none 0 0, [], rfl, Nat.le_refl _, hT1, PU.start, HM, HR⟩
  case round =>
    obtain ⟨i, pn, pv, ps, rfl, hi1', hiT, hPU, hM, hR⟩ := hrel
    clear HM HR
    obtain ⟨pa, pk, rfl⟩ := lpown_shape hM.out.po
    obtain ⟨W, hW⟩ : ∃ W, W = wr := ⟨_, rfl⟩
    rw [← hW] at hM hR ⊢
    clear hW
    have HM := hM
    have HR := hR
    clear hM hR
    have HPU := Lib.hid hPU
    have hpm := hPU.most
    clear hPU
    by_cases hlt : i < T
    · have hltz : (i : Int) < (T : Int) := by omega
      go_wp2_with fail
      apply reg8 (hi := by omega) (hi2 := by omega) (hS := HM.out.src.1) (hP := fun _ _ o _ _ h => by cases o <;> exact h)
      intro K f d q r y35 y37 y38 y39 y48 X DX f0 f1 r0 rB
      obtain ⟨h1, h2, h3⟩ := box5 (HM.out.draw DX) rB (md_chg HR.out (by have := HM.out.rl; have := HM.out.sbl; omega) DX.2) (by have := HR.out.lt; have := HM.out.rl; omega) (by have := HR.out.lt; omega) (fun e => by have := (World.ownsRow.lt HM.out.po r e.symm).2; omega) (.int .i64 K) (.int .i64 f) (.int .i64 i) (.int .i64 d) (.int .i64 q)
      obtain ⟨W8, hW8⟩ : ∃ W, W = (((((X.setCell ⟨r, 0, none⟩ (.int .i64 K)).setCell ⟨r, 1, none⟩ (.int .i64 f)).setCell ⟨r, 2, none⟩ (.int .i64 i)).setCell ⟨r, 3, none⟩ (.int .i64 d)).setCell ⟨r, 4, none⟩ (.int .i64 q)) := ⟨_, rfl⟩
      rw [← hW8] at h1 h2 h3 ⊢
      have HRN : Hid (w.heap.size < r ∧ R ≠ r ∧ some r ≠ Value.ownBlock (.slice pa pn pk)) := ⟨by have := HR.out.lt; have := HM.out.rl; omega, by have := HR.out.lt; omega, fun e => by have := (World.ownsRow.lt HM.out.po r e.symm).2; omega⟩
      clear HM HR hW8 rB r0 DX
      have HM := Lib.hid h1
      have HB := Lib.hid h2
      have HR := Lib.hid h3
      clear h1 h2 h3
      go_wp2_with fail
      refine (one_any sb 40 _ HM.out.src.1 (by omega)).mono ?_
      rintro e w9 ⟨⟨bb, rfl⟩, hD⟩
      replace HM := Lib.hid (HM.out.draw hD)
      replace HR := Lib.hid (md_chg HR.out (by have := HM.out.rl; have := HM.out.sbl; omega) hD.2)
      replace HB := Lib.hid (md_chg HB.out (by have := HRN.out.1; have := HM.out.sbl; omega) hD.2)
      clear hD
      go_upto_if 50 with fail
      go_cut [] (fun V => ∃ K : Int, Hid (MM w sb R (.slice pa pn pk) (.slice none 0 0) (.slice none 0 0) pn 0 ps [] [] V) ∧ Hid (V.rowIs R 27 5 (rowN [.int .i64 nd, .int .i64 hd, (.slice pa pn pk), .slice none 0 0, .slice none 0 0])) ∧ Hid (V.rowIs r 36 5 (rowN [.int .i64 K, .int .i64 f, .int .i64 i, .int .i64 d, .int .i64 q])))
      case first =>
        cases bb with
        | true =>
          go_wp2_with fail
          refine (n_any sb 8 _ HM.out.src.1 (by omega)).mono ?_
          rintro e w10 ⟨⟨x, rfl, _, _, _⟩, hD⟩
          replace HM := Lib.hid (HM.out.draw hD)
          replace HR := Lib.hid (md_chg HR.out (by have := HM.out.rl; have := HM.out.sbl; omega) hD.2)
          replace HB := Lib.hid (md_chg HB.out (by have := HRN.out.1; have := HM.out.sbl; omega) hD.2)
          clear hD
          obtain ⟨⟨y0, y1, y2, y3, y4⟩, g0, g1, g2, g3, g4⟩ := rowN5 HB.out
          have hl0 := HB.out.lt
          have HM2 := Lib.hid (HM.out.box HB.out HRN.out.1 HRN.out.2.2 (i := 0) (.int .i64 x))
          have HR2 := Lib.hid (HR.out.of_block (Below.heap_setCell w10 ⟨r, 0, none⟩ (.int .i64 x) R HRN.out.2.1))
          have HB2 := Lib.hid (rowN_put HB.out 0 (.int .i64 x) (by simp))
          clear HM HR HB
          go_wp2_with fail
          go_meet
          case rel => exact ⟨x, HM2, HR2, HB2⟩
        | false =>
          go_wp2_with fail
          go_meet
          case rel => exact ⟨K, HM, HR, HB⟩
      case rest =>
      obtain ⟨K1, hM, hR, hB⟩ := hcut
      clear HM HR HB
      obtain ⟨W10, hW10⟩ : ∃ W, W = wc := ⟨_, rfl⟩
      rw [← hW10] at hM hR hB ⊢
      have HM := hM
      have HR := hR
      have HB := hB
      clear hM hR hB hW10
      obtain ⟨⟨y0, y1, y2, y3, y4⟩, g0, g1, g2, g3, g4⟩ := rowN5 HB.out
      obtain ⟨⟨m0, m1, m2, m3, m4⟩, n0, n1, n2, n3, n4⟩ := rowN5 HR.out
      have hl0 := HR.out.lt
      go_wp2_with (at_builtin; refine wpList_append_own_at _ rfl _ _ 23 rfl w.heap.size 36 j0 (.agg #[.int .i64 0, .int .i64 0, .int .i64 0, .int .i64 0, .int .i64 0]) 5 40 Tryz.underlying23 hj0 hj1 hj2 hj3 rfl (by decide) _ _ _ rfl (World.ownsRow.alloc HM.out.po _) ⟨W10.heap.size, 0, none⟩ 1 1 [.int .i64 K1, .int .i64 f, .int .i64 i, .int .i64 d, .int .i64 q] rfl rfl (cells5 _ _ _ _ _ _ _) ?c2 ?c3 ?c4 ?c5 ?_)
      case c2 => intro u hu; simp at hu; rcases hu with rfl | rfl | rfl | rfl | rfl <;> rfl
      case c3 => unfold maxLen; omega
      case c4 => omega
      case c5 => have := HM.out.src.2.size; first | omega | (simp; omega)
      intro va wA hown hgrow _ hatb
      obtain ⟨a9, c9, rfl⟩ := lpown_shape hown
      have hbA : Below W10.heap.size W10 (W10.alloc (.cells #[.int .i64 K1, .int .i64 f, .int .i64 i, .int .i64 d, .int .i64 q] 36)) := nbel_alloc _ _
      have HM1 := Lib.hid ((HM.out.below hbA).pipes (zs := [K1, f, (i : Int), d, q]) hgrow hown)
      have HR1 := Lib.hid (md_row (nrow_below HR.out hbA) (lpown_below HM.out.po hbA) (by decide) hgrow)
      have HB1 := Lib.hid ((nrow_below HB.out hbA).of_block (hgrow.block r (nrow_below HB.out hbA).lt HRN.out.2.2))
      have HRN1 : Hid (w.heap.size < r ∧ R ≠ r ∧ some r ≠ Value.ownBlock (.slice a9 (pn + 1) c9)) := ⟨HRN.out.1, HRN.out.2.1, fun e => by
        rcases hatb with h | h
        · rw [h] at e; exact HRN.out.2.2 e
        · rw [h] at e; have := HB.out.lt; simp at e; omega⟩
      have HPH := Lib.hid (HPU.out.one K1 f d q f0 f1)
      obtain ⟨W11, hW11⟩ : ∃ W, W = wA.setCell ⟨R, 2, none⟩ (.slice a9 (pn + 1) c9) := ⟨_, rfl⟩
      clear HM HR HB HRN hown hgrow hatb hbA y0 y1 y2 y3 y4 g0 g1 g2 g3 g4 m0 m1 m2 m3 m4 n0 n1 n2 n3 n4 hl0
      obtain ⟨⟨m0, m1, m2, m3, m4⟩, n0, n1, n2, n3, n4⟩ := rowN5 HR1.out
      have hl0 := HR1.out.lt
      obtain ⟨ps1, hps1⟩ : ∃ ps1, ps1 = ps ++ [K1, f, (i : Int), d, q] := ⟨_, rfl⟩
      obtain ⟨pm, hpme⟩ : ∃ pm, pm = pn + 1 := ⟨_, rfl⟩
      have hpm1 : pm + 1 ≤ 2 * i := by omega
      have HM : Hid (MM w sb R (.slice a9 pm c9) (.slice none 0 0) (.slice none 0 0) pm 0 ps1 [] [] W11) := by show MM _ _ _ _ _ _ _ _ _ _ _ _; rw [hW11, hps1, hpme]; exact HM1.out.set HR1.out _
      have HR : Hid (W11.rowIs R 27 5 (rowN [.int .i64 nd, .int .i64 hd, (.slice a9 pm c9), .slice none 0 0, .slice none 0 0])) := by show World.rowIs _ _ _ _ _; rw [hW11, hpme]; exact rowN_put HR1.out 2 _ (by simp)
      have HB : Hid (W11.rowIs r 36 5 (rowN [.int .i64 K1, .int .i64 f, .int .i64 i, .int .i64 d, .int .i64 q])) := by show World.rowIs _ _ _ _ _; rw [hW11]; exact HB1.out.of_block (Below.heap_setCell _ _ _ _ (fun e => HRN1.out.2.1 e.symm))
      rw [← hps1, ← hpme] at HPH
      rw [← hpme] at HRN1
      have HW11 := Lib.hid hW11
      have HPM := Lib.hid hpme
      clear hW11 hps1 hpme HM1 HR1 HB1 HPU
      go_upto_region 12 with fail
      rw [← HW11.out]
      clear HW11 m0 m1 m2 m3 m4 n0 n1 n2 n3 n4 hl0 hpm HPM
      go_cut [65] (fun bv V => ∃ b : Bool, bv = .bool b ∧ (b = true → 1 < i) ∧ Hid (MM w sb R (.slice a9 pm c9) (.slice none 0 0) (.slice none 0 0) pm 0 ps1 [] [] V) ∧ Hid (V.rowIs R 27 5 (rowN [.int .i64 nd, .int .i64 hd, (.slice a9 pm c9), .slice none 0 0, .slice none 0 0])) ∧ Hid (V.rowIs r 36 5 (rowN [.int .i64 K1, .int .i64 f, .int .i64 i, .int .i64 d, .int .i64 q])))
      case first =>
        by_cases hi2 : 1 < i
        · have hi2z : (1 : Int) < (i : Int) := by omega
          go_wp2_with fail
          refine (one_any sb 2 _ HM.out.src.1 (by omega)).mono ?_
          rintro e w12 ⟨⟨bb, rfl⟩, hD⟩
          replace HM := Lib.hid (HM.out.draw hD)
          replace HR := Lib.hid (md_chg HR.out (by have := HM.out.rl; have := HM.out.sbl; omega) hD.2)
          replace HB := Lib.hid (md_chg HB.out (by have := HRN1.out.1; have := HM.out.sbl; omega) hD.2)
          clear hD
          go_wp2_with fail
          go_meet
          case rel => exact ⟨bb, rfl, fun _ => hi2, HM, HR, HB⟩
        · have hi2z : ¬ (1 : Int) < (i : Int) := by omega
          go_wp2_with fail
          go_meet
          case rel => exact ⟨false, rfl, fun h => (by cases h), HM, HR, HB⟩
      case rest =>
      obtain ⟨b65, rfl, hb65, hM, hR, hB⟩ := hcut
      clear HM HR HB
      obtain ⟨W12, hW12⟩ : ∃ W, W = wc := ⟨_, rfl⟩
      rw [← hW12] at hM hR hB ⊢
      have HM := hM
      have HR := hR
      have HB := hB
      clear hM hR hB hW12
      cases b65 with
      | true =>
        have hi2 := hb65 rfl
        go_wp2_with fail
        refine (n_any sb i _ HM.out.src.1 (by omega)).mono ?_
        rintro e w13 ⟨⟨x, rfl, x0, x1, _⟩, hD⟩
        have hxi : x < (i : Int) := x1 (by omega)
        replace HM := Lib.hid (HM.out.draw hD)
        replace HR := Lib.hid (md_chg HR.out (by have := HM.out.rl; have := HM.out.sbl; omega) hD.2)
        replace HB := Lib.hid (md_chg HB.out (by have := HRN1.out.1; have := HM.out.sbl; omega) hD.2)
        clear hD x1
        obtain ⟨⟨y0, y1, y2, y3, y4⟩, _⟩ := rowN5 HB.out
        by_cases hxf : x = f
        · have hxz : (x != f) = false := by simp [hxf]
          go_wp2_with fail
          go_roundw
          case rel => exact ⟨i + 1, pm, _, _, by go_num, by omega, by omega, HPH.out.to (by omega), HM, HR⟩
          case measure => simp [intOf]; omega
        have hxz : (x != f) = true := by simp [hxf]
        go_wp2_with fail
        clear y0 y1 y2 y3 y4 HB hxz
        apply reg15 (HM := HM) (HR := HR) (HPH := HPH) (hpm1 := hpm1) (hi12 := by omega) (x0 := x0) (hxi := hxi) (hP := fun _ _ o _ _ h => by cases o <;> exact h)
        intro y73 y74 y75 y76 y77 y78 y79 y80 y81 y82 y83 y84 y85 y86 y87 y88 y89 WZ HX
        clear HM HR HPH
        go_wp2_with fail
        obtain ⟨pv9, ps9, h1, h2, h3, h4⟩ := HX.out
        have H3 := Lib.hid h3
        have H4 := Lib.hid h4
        clear HX h3 h4
        go_roundw
        case rel => exact ⟨i + 1, pm + 1, pv9, ps9, by go_num, by omega, by omega, h1.to h2, H3, H4⟩
        case measure => simp [intOf]; omega
      | false =>
        go_wp2_with fail
        refine (one_any sb 3 _ HM.out.src.1 (by omega)).mono ?_
        rintro e w13 ⟨⟨bb, rfl⟩, hD⟩
        replace HM := Lib.hid (HM.out.draw hD)
        replace HR := Lib.hid (md_chg HR.out (by have := HM.out.rl; have := HM.out.sbl; omega) hD.2)
        replace HB := Lib.hid (md_chg HB.out (by have := HRN1.out.1; have := HM.out.sbl; omega) hD.2)
        clear hD
        cases bb with
        | false =>
          go_wp2_with fail
          go_roundw
          case rel => exact ⟨i + 1, pm, _, _, by go_num, by omega, by omega, HPH.out.to (by omega), HM, HR⟩
          case measure => simp [intOf]; omega
        | true =>
          go_wp2_with fail
          apply reg17 (HM := HM) (HR := HR) (HQ := HB) (HQL := Nat.le_of_lt HRN1.out.1) (HQN := HRN1.out.2.2) (HPH := HPH) (hpm1 := hpm1) (hi12 := by omega) (f0 := f0) (f1 := f1) (hP := fun _ _ o _ _ h => by cases o <;> exact h)
          intro y92 y93 y94 y95 y96 y97 y98 y99 y100 y101 y102 WZ HX
          clear HB
          clear HM HR HPH
          go_wp2_with fail
          obtain ⟨pv9, ps9, h1, h2, h3, h4⟩ := HX.out
          have H3 := Lib.hid h3
          have H4 := Lib.hid h4
          clear HX h3 h4
          go_roundw
          case rel => exact ⟨i + 1, pm + 1, pv9, ps9, by go_num, by omega, by omega, h1.to h2, H3, H4⟩
          case measure => simp [intOf]; omega
    · obtain rfl : i = T := by omega
      go_wp2_with fail
      obtain ⟨pv, hpv⟩ : ∃ pv : Value, pv = .slice pa pn pk := ⟨_, rfl⟩
      have HY : Hid (MY w sb R nd hd pv pn 0 ps W) := by
        refine ⟨.slice none 0 0, [], ?_, ?_⟩
        · rw [hpv]; exact HM.out
        · rw [hpv]; exact HR.out
      have HPV := Lib.hid hpv
      clear HM HR hpv
      go_loopw [8] (fun kv wr => ∃ k : Nat, kv = .int .i64 k ∧ k ≤ i ∧ Hid (MY w sb R nd hd pv pn k ps wr)) (fun kv _ => i - (intOf kv).toNat)
      case atStart => exact ⟨0, rfl, Nat.zero_le _, HY⟩
      case round =>
        obtain ⟨k, rfl, hk, hY⟩ := hrel
        clear HY
        obtain ⟨W15, hW15⟩ : ∃ W, W = wr := ⟨_, rfl⟩
        rw [← hW15] at hY ⊢
        clear hW15
        obtain ⟨wv, ws, hM, hR⟩ := hY.out
        obtain ⟨wa, wk, rfl⟩ := lpown_shape hM.wo
        have HM := Lib.hid hM
        have HR := Lib.hid hR
        clear hM hR hY
        by_cases hlk : k < i
        · have hlkz : (k : Int) < (i : Int) := by omega
          go_wp2_with fail
          apply reg21 (HM := HM) (HR := HR) (hk := by omega) (hP := fun _ _ o _ _ h => by cases o <;> exact h)
          intro y108 y109 y110 y111 y112 y113 y114 WZ HX
          clear HM HR
          go_wp2_with fail
          go_roundw
          case rel => exact ⟨k + 1, by go_num, by omega, HX⟩
          case measure => simp [intOf]; omega
        · obtain rfl : k = i := by omega
          rw [HPV.out] at HM HR
          clear HPV
          obtain ⟨⟨m0, m1, m2, m3, m4⟩, n0, n1, n2, n3, n4⟩ := rowN5 HR.out
          have hl0 := HR.out.lt
          obtain ⟨md, hmd⟩ : ∃ md, md = md0 nd hd pn k ps ws := ⟨_, rfl⟩
          have HAT : Hid (MnAt md pa none wa W15) := by
            show MnAt _ _ _ _ _
            rw [hmd]
            obtain ⟨a, c, e, h1, _⟩ := md_isat HM.out.po
            cases e
            obtain ⟨a, c, e, h2, _⟩ := md_isat HM.out.wo
            cases e
            rw [Nat.mul_one] at h2
            exact ⟨h1, Or.inl rfl, h2⟩
          have HMV : Hid (mnV md pa pk none 0 wa wk = .agg #[.int .i64 nd, .int .i64 hd, .slice pa pn pk, .slice none 0 0, .slice wa k wk]) := by show _ = _; rw [hmd]; rfl
          have HLC : Hid (∀ V, MnAt md pa none wa V → Calls Tryz.prog 58 #[mnV md pa pk none 0 wa wk] V fun e w' => LpEnd md V.heap.size e w' ∧ Below V.heap.size V w') := fun V hV => sloops_any md pa pk none 0 wa wk V hV (by rw [hmd]; show pn ≤ 1000; omega) (by rw [hmd]; show k ≤ 1000; omega) (by rw [hmd]; exact HPU.out.pr) (by rw [hmd]; exact HPU.out.cov)
          have HWN : Hid (md.wn = k) := by show _ = _; rw [hmd]; rfl
          clear hmd
          go_wp2_with fail
          rw [← HMV.out]
          refine (HLC.out _ HAT.out).mono ?_
          rintro e w16 ⟨⟨lv, qs, rfl, hq12, hown, hall⟩, hb⟩
          obtain ⟨la, lk, rfl⟩ := lpown_shape hown
          have HM1 := Lib.hid (HM.out.loops hb hown (fun x hx => (hall x hx).1))
          have HR1 := Lib.hid (nrow_below HR.out hb)
          have HQN : Hid (qs.length ≤ 12 ∧ ∀ x, x ∈ qs → x.2.length ≤ 900) := ⟨hq12, fun x hx => by have := (hall x hx).2; rw [HWN.out] at this; omega⟩
          clear HM HR HAT HMV HLC HWN hown hall hb m0 m1 m2 m3 m4 n0 n1 n2 n3 n4 hl0 hq12
          obtain ⟨⟨m0, m1, m2, m3, m4⟩, n0, n1, n2, n3, n4⟩ := rowN5 HR1.out
          have hl0 := HR1.out.lt
          obtain ⟨W17, hW17⟩ : ∃ W, W = w16.setCell ⟨R, 3, none⟩ (.slice la qs.length lk) := ⟨_, rfl⟩
          have HM : Hid (MM w sb R (.slice pa pn pk) (.slice la qs.length lk) (.slice wa k wk) pn k ps ws qs W17) := by show MM _ _ _ _ _ _ _ _ _ _ _ _; rw [hW17]; exact HM1.out.set HR1.out _
          have HR : Hid (W17.rowIs R 27 5 (rowN [.int .i64 nd, .int .i64 hd, (.slice pa pn pk), (.slice la qs.length lk), (.slice wa k wk)])) := by show World.rowIs _ _ _ _ _; rw [hW17]; exact rowN_put HR1.out 3 _ (by simp)
          have HW17 := Lib.hid hW17
          clear hW17 HM1 HR1
          go_wp2_with fail
          rw [← HW17.out]
          clear HW17 m0 m1 m2 m3 m4 n0 n1 n2 n3 n4 hl0
          refine (one_any sb 20 _ HM.out.src.1 (by omega)).mono ?_
          rintro e w18 ⟨⟨bb, rfl⟩, hD⟩
          replace HM := Lib.hid (HM.out.draw hD)
          replace HR := Lib.hid (md_chg HR.out (by have := HM.out.rl; have := HM.out.sbl; omega) hD.2)
          clear hD
          have hpn : pn ≤ 900 := by omega
          have hkn : k ≤ 900 := by omega
          go_upto_if 119 with fail
          go_cut [] (fun V => Hid (MF w sb R V))
          case first =>
            cases bb with
            | true =>
              go_wp2_with fail
              refine (n_any sb 5 _ HM.out.src.1 (by omega)).mono ?_
              rintro e w20 ⟨⟨y, rfl, y0, y1, _⟩, hD⟩
              have hy5 : y < 5 := y1 (by omega)
              replace HM := Lib.hid (HM.out.draw hD)
              replace HR := Lib.hid (md_chg HR.out (by have := HM.out.rl; have := HM.out.sbl; omega) hD.2)
              clear hD y1
              obtain ⟨⟨m0, m1, m2, m3, m4⟩, n0, n1, n2, n3, n4⟩ := rowN5 HR.out
              have hl0 := HR.out.lt
              have h5 : y = 0 ∨ y = 1 ∨ y = 2 ∨ y = 3 ∨ y = 4 := by omega
              rcases h5 with rfl | rfl | rfl | rfl | rfl
              · go_wp2_with (at_builtin; refine wpList_append_own _ rfl _ _ 25 rfl w.heap.size 2 i0 (.int .i64 0) 1 8 Tryz.underlying25 hi0 hi1 hi2 hi3 rfl (by decide) _ _ _ rfl (World.ownsRow.alloc HM.out.wo _) ⟨w20.heap.size, 0, none⟩ 1 1 [.int .i64 1] rfl rfl (cell_one_new _ _ _) ?d2 ?d3 ?d4 ?d5 ?_)
                case d2 => first | rfl | (intro u hu; simp at hu; subst hu; rfl)
                case d3 => unfold maxLen; omega
                case d4 => omega
                case d5 => have := HM.out.src.2.size; first | omega | (simp; omega)
                intro va wA hown hgrow _
                obtain ⟨a9, c9, rfl⟩ := lpown_shape hown
                have hbA : Below w20.heap.size w20 (w20.alloc (.cells #[.int .i64 1] 2)) := nbel_alloc _ _
                have HM1 := Lib.hid ((HM.out.below hbA).wants2 (zs := [1]) hgrow hown)
                have HR1 := Lib.hid (md_row (nrow_below HR.out hbA) (lpown_below HM.out.wo hbA) (by decide) hgrow)
                clear HM HR hown hgrow hbA m0 m1 m2 m3 m4 n0 n1 n2 n3 n4 hl0
                obtain ⟨⟨m0, m1, m2, m3, m4⟩, n0, n1, n2, n3, n4⟩ := rowN5 HR1.out
                have hl0 := HR1.out.lt
                have HF : Hid (MF w sb R (wA.setCell ⟨R, 4, none⟩ (.slice a9 (k + 1) c9))) := ⟨_, _, _, _, _, _, _, _, _, _, HM1.out.put HR1.out (i := 4) _, rowN_put HR1.out 4 _ (by simp), by omega, by omega, by have := HQN.out.1; omega, fun x hx => by have := HQN.out.2 x hx; omega⟩
                clear HM1 HR1
                go_wp2_with fail
                go_meet
                case rel => exact HF
              · go_wp2_with (at_builtin; refine wpList_append_own _ rfl _ _ 24 rfl w.heap.size 25 k0 (.slice none 0 0) 1 24 Tryz.underlying24 hk0 hk1 hk2 hk3 rfl (by decide) _ _ _ rfl (World.ownsRow.alloc (World.ownsRow.alloc HM.out.lo _) _) ⟨w20.heap.size + 1, 0, none⟩ 1 1 [.slice (some ⟨w20.heap.size, 0, none⟩) 2 2] rfl rfl (md_one2 _ _ _ _) ?e2 ?e3 ?e4 ?e5 ?_)
                case e2 => first | rfl | (intro u hu; simp at hu; subst hu; rfl)
                case e3 => have := HQN.out.1; unfold maxLen; omega
                case e4 => have := HQN.out.1; omega
                case e5 => have := HM.out.src.2.size; first | omega | (simp; omega)
                intro va wA hown hgrow _
                obtain ⟨a9, c9, rfl⟩ := lpown_shape hown
                have hbA : Below w20.heap.size w20 ((w20.alloc (.cells #[.int .i64 1, .int .i64 (-1)] 2)).alloc (.cells #[.slice (some ⟨w20.heap.size, 0, none⟩) 2 2] 25)) := (nbel_alloc _ _).alloc (by simp) _
                have HM1 := Lib.hid ((HM.out.below hbA).loop (x := (.slice (some ⟨w20.heap.size, 0, none⟩) 2 2, [1, -1])) (md_lit2 w20 _ HM.out.src.2.size) hgrow hown)
                have HR1 := Lib.hid (md_row (nrow_below HR.out hbA) (lpown_below HM.out.lo hbA) (by decide) hgrow)
                clear HM HR hown hgrow hbA m0 m1 m2 m3 m4 n0 n1 n2 n3 n4 hl0
                obtain ⟨⟨m0, m1, m2, m3, m4⟩, n0, n1, n2, n3, n4⟩ := rowN5 HR1.out
                have hl0 := HR1.out.lt
                have HF : Hid (MF w sb R (wA.setCell ⟨R, 3, none⟩ (.slice a9 (qs.length + 1) c9))) := ⟨_, _, _, _, _, _, _, _, _, _, HM1.out.put HR1.out (i := 3) _, rowN_put HR1.out 3 _ (by simp), by omega, by omega, by have := HQN.out.1; simp; omega, fun x hx => by
                  rcases List.mem_append.1 hx with hx | hx
                  · have := HQN.out.2 x hx; omega
                  · obtain rfl : x = _ := by simpa using hx
                    show 2 ≤ 1000
                    omega⟩
                clear HM1 HR1
                go_wp2_with fail
                go_meet
                case rel => exact HF
              · clear m0 m1 m2 m3 m4 n0 n1 n2 n3 n4 hl0
                go_wp2_with fail
                apply reg31 (HM := HM) (HR := HR) (HLN := ⟨hpn, hkn, by have := HQN.out.1; omega, HQN.out.2⟩) (hP := fun _ _ o _ _ h => by cases o <;> exact h)
                intro y147 y148 y149 y150 y151 y152 y153 y154 y155 y156 WZ HX
                clear HM HR
                go_wp2_with fail
                go_meet
                case rel => exact HX
              · go_wp2_with fail
                refine (edge_any sb _ HM.out.src.1).mono ?_
                rintro e w21 ⟨⟨x, rfl, _, _⟩, hD⟩
                replace HM := Lib.hid (HM.out.draw hD)
                replace HR := Lib.hid (md_chg HR.out (by have := HM.out.rl; have := HM.out.sbl; omega) hD.2)
                clear hD m0 m1 m2 m3 m4 n0 n1 n2 n3 n4 hl0
                obtain ⟨⟨m0, m1, m2, m3, m4⟩, n0, n1, n2, n3, n4⟩ := rowN5 HR.out
                have hl0 := HR.out.lt
                have HF : Hid (MF w sb R (w21.setCell ⟨R, 1, none⟩ (.int .i64 x))) := ⟨_, _, _, _, _, _, _, _, _, _, HM.out.whole.put HR.out (i := 1) _, rowN_put HR.out 1 _ (by simp), by omega, by omega, by have := HQN.out.1; omega, fun x hx => by have := HQN.out.2 x hx; omega⟩
                clear HM HR
                go_wp2_with fail
                go_meet
                case rel => exact HF
              · clear m0 m1 m2 m3 m4 n0 n1 n2 n3 n4 hl0
                go_wp2_with fail
                apply reg25 (HM := HM) (HR := HR) (HLN := ⟨hpn, hkn, by have := HQN.out.1; omega, HQN.out.2⟩) (h0 := by omega) (h1 := by omega) (hP := fun _ _ o _ _ h => by cases o <;> exact h)
                intro y122 y123 y124 y125 y126 y127 y128 y129 WZ HX
                clear HM HR
                go_wp2_with fail
                go_meet
                case rel => exact HX
            | false =>
              go_wp2_with fail
              go_meet
              case rel => exact ⟨_, _, _, _, _, _, _, _, _, _, HM.out.whole, HR.out, by omega, by omega, by have := HQN.out.1; omega, fun x hx => by have := HQN.out.2 x hx; omega⟩
          case rest =>
          obtain ⟨nd9, hd9, pv9, lv9, wv9, pn9, wn9, ps9, ws9, qs9, hMW, hrow, b1, b2, b3, b4⟩ := hcut.out
          obtain ⟨pa9, pk9, rfl⟩ := lpown_shape hMW.po
          obtain ⟨la9, lk9, rfl⟩ := lpown_shape hMW.lo
          obtain ⟨wa9, wk9, rfl⟩ := lpown_shape hMW.wo
          clear HM HR HQN hcut
          obtain ⟨W19, hW19⟩ : ∃ W, W = wc := ⟨_, rfl⟩
          rw [← hW19] at hMW hrow ⊢
          clear hW19
          have HMW := Lib.hid hMW
          obtain ⟨⟨m0, m1, m2, m3, m4⟩, n0, n1, n2, n3, n4⟩ := rowN5 hrow
          obtain ⟨⟨r0, r1, r2, r3, r4⟩, t0, t1, t2, t3, t4⟩ := rowN5 hMW.res
          have hlR := hrow.lt
          have hlS := hMW.res.lt
          have H4 := Lib.hid b4
          have zr := rowN_put (rowN_put (rowN_put (rowN_put (rowN_put hMW.res 0 (.int .i64 nd9) (by simp)) 1 (.int .i64 hd9) (by simp)) 2 (.slice pa9 pn9 pk9) (by simp)) 3 (.slice la9 qs9.length lk9) (by simp)) 4 (.slice wa9 wn9 wk9) (by simp)
          have ZR := Lib.hid zr
          clear hMW hrow b4 zr
          go_wp2_with fail
          have zs0 := HMW.out.sbl
          have zd : Drew sb w (((((W19.setCell ⟨w.heap.size, 0, none⟩ (.int .i64 nd9)).setCell ⟨w.heap.size, 1, none⟩ (.int .i64 hd9)).setCell ⟨w.heap.size, 2, none⟩ (.slice pa9 pn9 pk9)).setCell ⟨w.heap.size, 3, none⟩ (.slice la9 qs9.length lk9)).setCell ⟨w.heap.size, 4, none⟩ (.slice wa9 wn9 wk9)) := md_put (md_put (md_put (md_put (md_put HMW.out.src zs0 (Nat.le_refl _) _) zs0 (Nat.le_refl _) _) zs0 (Nat.le_refl _) _) zs0 (Nat.le_refl _) _) zs0 (Nat.le_refl _) _
          have zt := HMW.out.told (nd := nd9) (hd := hd9) zd (fun k hk => by
            have e : k ≠ w.heap.size := by omega
            rw [Below.heap_setCell _ _ _ _ e, Below.heap_setCell _ _ _ _ e, Below.heap_setCell _ _ _ _ e, Below.heap_setCell _ _ _ _ e, Below.heap_setCell _ _ _ _ e]) b1 b2 b3 H4.out
          have zr := ZR.out
          clear ZR zd
          generalize (((((W19.setCell ⟨w.heap.size, 0, none⟩ (.int .i64 nd9)).setCell ⟨w.heap.size, 1, none⟩ (.int .i64 hd9)).setCell ⟨w.heap.size, 2, none⟩ (.slice pa9 pn9 pk9)).setCell ⟨w.heap.size, 3, none⟩ (.slice la9 qs9.length lk9)).setCell ⟨w.heap.size, 4, none⟩ (.slice wa9 wn9 wk9)) = V9 at zt zr ⊢
          obtain ⟨⟨c0, c1, c2, c3, c4⟩, _⟩ := rowN5 zr
          exact bodyPost_ret (v := .agg #[.int .i64 nd9, .int .i64 hd9, .slice pa9 pn9 pk9, .slice la9 qs9.length lk9, .slice wa9 wn9 wk9]) (by simp only [results, Tryz.results29]; simp [go_sem, c0, c1, c2, c3, c4]) rfl zt
end Go.Proofs.YtfgmalnkpgloiaaGreatDoor
namespace Go.Proofs.YtfgmalnkpgloiaaGreatDoor
open Go Go.RowKit Go.Deep

/-- What stands while the rounds are drawn. -/
structure DS (Q : Bool) (w w1 w2 : World) (sb G : Nat) (l r : List Value) (V : World) : Prop where
  row : V.rowIs G 27 5 (rowN l)
  res : V.rowIs w.heap.size 27 5 (rowN r)
  src : Q = true → Src sb V
  sbl : w.heap.size < sb
  sb1 : sb < w1.heap.size
  gl : w2.heap.size ≤ G
  z1 : w1.heap.size ≤ w2.heap.size
  z2 : w2.heap.size ≤ V.heap.size
  ag : ∀ k, w1.heap.size < k → k < w2.heap.size → V.heap[k]? = w2.heap[k]?
  old : Below w.heap.size w V
section
variable {Q : Bool} {w w1 w2 : World} {sb G : Nat} {l r : List Value} {V V' : World}
theorem DS.draw (h : DS Q w w1 w2 sb G l r V) (hd : Drew sb V V') : DS Q w w1 w2 sb G l r V' := by
  have a1 := h.sbl; have a2 := h.sb1; have a3 := h.gl; have a4 := h.z1; have a5 := h.z2
  exact ⟨md_chg h.row (by omega) hd.2, md_chg h.res (by omega) hd.2, fun _ => hd.1, h.sbl, h.sb1, h.gl, h.z1, Nat.le_trans h.z2 hd.2.size, fun k h1 h2 => (hd.2.2.2.2.2 k (by omega) (by omega)).trans (h.ag k h1 h2), ⟨hd.2.1.trans h.old.os, hd.2.2.1.trans h.old.tape, hd.2.2.2.1.trans h.old.output, Nat.le_trans h.old.size hd.2.size, fun k hk => (hd.2.2.2.2.2 k (by omega) (by omega)).trans (h.old.block k hk)⟩⟩
theorem DS.below (h : DS Q w w1 w2 sb G l r V) (hb : Below V.heap.size V V') : DS Q w w1 w2 sb G l r V' := by
  have a5 := h.z2
  exact ⟨nrow_below h.row hb, nrow_below h.res hb, fun e => (h.src e).below hb, h.sbl, h.sb1, h.gl, h.z1, Nat.le_trans h.z2 hb.size, fun k h1 h2 => (hb.block k (by omega)).trans (h.ag k h1 h2), h.old.trans (hb.mono h.old.size)⟩
end
theorem ds_keep {w V : World} {T : TypeId} {g n : Nat} {F : Nat → Value} (h : V.rowIs g T n F) (hg : g ≠ w.heap.size) (a b c d e : Value) : (((((V.setCell ⟨w.heap.size, 0, none⟩ a).setCell ⟨w.heap.size, 1, none⟩ b).setCell ⟨w.heap.size, 2, none⟩ c).setCell ⟨w.heap.size, 3, none⟩ d).setCell ⟨w.heap.size, 4, none⟩ e).rowIs g T n F := by
  refine h.of_block ?_
  rw [Below.heap_setCell _ _ _ _ hg, Below.heap_setCell _ _ _ _ hg, Below.heap_setCell _ _ _ _ hg, Below.heap_setCell _ _ _ _ hg, Below.heap_setCell _ _ _ _ hg]
theorem DS.put {Q : Bool} {w w1 w2 : World} {sb G : Nat} {l : List Value} {x0 x1 x2 x3 x4 : Value} {V : World} (h : DS Q w w1 w2 sb G l [x0, x1, x2, x3, x4] V) (a b c d e : Value) : DS false w w1 w2 sb G l [a, b, c, d, e] (((((V.setCell ⟨w.heap.size, 0, none⟩ a).setCell ⟨w.heap.size, 1, none⟩ b).setCell ⟨w.heap.size, 2, none⟩ c).setCell ⟨w.heap.size, 3, none⟩ d).setCell ⟨w.heap.size, 4, none⟩ e) := by
  have a1 := h.sbl; have a2 := h.sb1; have a3 := h.gl; have a4 := h.z1; have a5 := h.z2
  have hk : ∀ k, k ≠ w.heap.size → (((((V.setCell ⟨w.heap.size, 0, none⟩ a).setCell ⟨w.heap.size, 1, none⟩ b).setCell ⟨w.heap.size, 2, none⟩ c).setCell ⟨w.heap.size, 3, none⟩ d).setCell ⟨w.heap.size, 4, none⟩ e).heap[k]? = V.heap[k]? := fun k hg => by
    rw [Below.heap_setCell _ _ _ _ hg, Below.heap_setCell _ _ _ _ hg, Below.heap_setCell _ _ _ _ hg, Below.heap_setCell _ _ _ _ hg, Below.heap_setCell _ _ _ _ hg]
  have hl : Below w.heap.size w (((((V.setCell ⟨w.heap.size, 0, none⟩ a).setCell ⟨w.heap.size, 1, none⟩ b).setCell ⟨w.heap.size, 2, none⟩ c).setCell ⟨w.heap.size, 3, none⟩ d).setCell ⟨w.heap.size, 4, none⟩ e) := ((((h.old.setCell (p := ⟨w.heap.size, 0, none⟩) (Nat.le_refl _) _).setCell (p := ⟨w.heap.size, 1, none⟩) (Nat.le_refl _) _).setCell (p := ⟨w.heap.size, 2, none⟩) (Nat.le_refl _) _).setCell (p := ⟨w.heap.size, 3, none⟩) (Nat.le_refl _) _).setCell (p := ⟨w.heap.size, 4, none⟩) (Nat.le_refl _) _
  refine ⟨ds_keep h.row (by omega) _ _ _ _ _, rowN_put (rowN_put (rowN_put (rowN_put (rowN_put h.res 0 a (by simp)) 1 b (by simp)) 2 c (by simp)) 3 d (by simp)) 4 e (by simp), fun e => (by cases e), h.sbl, h.sb1, h.gl, h.z1, by simpa using h.z2, fun k h1 h2 => (hk k (by omega)).trans (h.ag k h1 h2), hl⟩
/-- What a draw of mains and rounds tells. -/
def MsEnd (w : World) (e : Ending) (V : World) : Prop := (∃ (m : Mn.Mains) (pa : Option Addr) (pk : Nat) (la : Option Addr) (lk : Nat) (wa : Option Addr) (wk : Nat) (rd : Int), e = .returned (.tuple #[mnV m pa pk la lk wa wk, .int .i64 rd]) ∧ MnAt m pa la wa V ∧ (m.pn ≤ 1000 ∧ m.ln ≤ 1000 ∧ m.wn ≤ 1000 ∧ ∀ i, i < m.ln → m.LN i ≤ 1000) ∧ (-1 ≤ rd ∧ rd ≤ 101)) ∧ Below w.heap.size w V
set_option maxRecDepth 100000 in
set_option maxHeartbeats 16000000 in
theorem drawMS_any (a0 : Option Addr) (len cap : Nat) (w : World) (h : Bytes a0 len w) (hl : len ≤ 4194304) :
    Calls Tryz.prog 7 #[.slice a0 len cap] w fun e w' => MsEnd w e w' := by
  obtain ⟨W0, hW0⟩ : ∃ W0, W0 = w.alloc (.cells #[.int .i64 0, .int .i64 0, .slice none 0 0, .slice none 0 0, .slice none 0 0] 27) := ⟨_, rfl⟩
  have hb : Below w.heap.size w W0 := by rw [hW0]; exact nbel_alloc _ _
  have HRS : Hid (W0.rowIs w.heap.size 27 5 (rowN [.int .i64 0, .int .i64 0, .slice none 0 0, .slice none 0 0, .slice none 0 0])) := by show World.rowIs _ _ _ _ _; rw [hW0]; exact rowN_alloc w _ _
  have HBY := Lib.hid (h.below hb)
  have HB := Lib.hid hb
  have HW := Lib.hid hW0
  clear h hb hW0
  go_enter Tryz.func7, Tryz.ntmps7
  go_wp2_with fail
  rw [← HW.out]
  clear HW
  refine (source_any a0 len cap _ HBY.out hl).mono ?_
  rintro e w1 ⟨rfl, hsrc, hb1⟩
  obtain ⟨sb, hsb⟩ : ∃ sb, sb = W0.heap.size := ⟨_, rfl⟩
  rw [← hsb] at hsrc ⊢
  have HSR := Lib.hid hsrc
  have HS1 : Hid (w.heap.size < sb ∧ sb < w1.heap.size) := ⟨by have := HRS.out.lt; omega, hsrc.lt⟩
  replace HRS := Lib.hid (nrow_below HRS.out hb1)
  replace HB : Hid (Below w.heap.size w w1) := HB.out.trans (hb1.mono HB.out.size)
  clear hsrc hsb hb1 HBY
  go_wp2_with fail
  refine (dmains_any sb _ HSR.out).mono ?_
  rintro e w2 ⟨⟨m, pa, pk, la, lk, wa, wk, rfl, hat, l1, l2, l3, l4⟩, hD⟩
  obtain ⟨G, hG⟩ : ∃ G, G = w2.heap.size := ⟨_, rfl⟩
  obtain ⟨W3, hW3⟩ : ∃ W, W = w2.alloc (.cells #[.int .i64 m.nodes, .int .i64 m.head, .slice pa m.pn pk, .slice la m.ln lk, .slice wa m.wn wk] 27) := ⟨_, rfl⟩
  have hb3 : Below w2.heap.size w2 W3 := by rw [hW3]; exact nbel_alloc _ _
  have HAT := Lib.hid hat
  have HLN : Hid (m.pn ≤ 1000 ∧ m.ln ≤ 1000 ∧ m.wn ≤ 1000 ∧ ∀ i, i < m.ln → m.LN i ≤ 1000) := ⟨l1, l2, l3, l4⟩
  have HD : Hid (DS true w w1 w2 sb G (mnL m pa pk la lk wa wk) [.int .i64 0, .int .i64 0, .slice none 0 0, .slice none 0 0, .slice none 0 0] W3) := by
    have a1 := HS1.out.1; have a2 := HS1.out.2; have a3 := hD.2.size
    have h2 : Below w.heap.size w w2 := ⟨hD.2.1.trans HB.out.os, hD.2.2.1.trans HB.out.tape, hD.2.2.2.1.trans HB.out.output, Nat.le_trans HB.out.size hD.2.size, fun k hk => (hD.2.2.2.2.2 k (by omega) (by omega)).trans (HB.out.block k hk)⟩
    refine ⟨?_, nrow_below (md_chg HRS.out (by omega) hD.2) hb3, fun _ => hD.1.below hb3, a1, a2, by omega, a3, hb3.size, fun k _ hk => hb3.block k hk, h2.trans (hb3.mono h2.size)⟩
    rw [hW3, hG]; exact rowN_alloc w2 _ _
  have HW := Lib.hid hW3
  have HG := Lib.hid hG
  clear hW3 hG hb3 hat l1 l2 l3 l4 hD HSR HB HRS
  go_wp2_with fail
  rw [← HW.out, ← HG.out]
  clear HW HG
  refine (one_any sb 10 _ (HD.out.src rfl) (by omega)).mono ?_
  rintro e w4 ⟨⟨bb, rfl⟩, hD⟩
  replace HD := Lib.hid (HD.out.draw hD)
  clear hD
  cases bb with
  | true =>
    go_wp2_with fail
    refine wp_region_held_drew (S := fun V => V.rowIs G 27 5 (rowN (mnL m pa pk la lk wa wk))) (by kernel_rfl) (nrow_below HD.out.row (Below.refl _ _).drew) (fun hHeld => ?_)
    obtain ⟨Z, hZ⟩ : ∃ Z, Z = w4.drew := ⟨_, rfl⟩
    replace HD := Lib.hid (HD.out.below (Below.refl _ _).drew)
    rw [← hZ] at hHeld HD ⊢
    clear hZ
    refine take_do (i := 0) (v := (mnV m pa pk la lk wa wk)) rfl (by kernel_rfl) (by kernel_rfl) (by kernel_rfl) (fun _ _ _ h => h) (by rfl) ?_ (by assumption) ?_
    · intro w hSw
      obtain ⟨⟨x0, x1, x2, x3, x4⟩, _⟩ := rowN5 hSw
      go_simp
    simp only [Act.put, List.setIfInBounds_toArray, List.set_cons_zero, List.set_cons_succ]
    refine take_do (i := 2) (v := (.pointer (some ⟨sb, 0, none⟩))) rfl (by kernel_rfl) (by kernel_rfl) (by kernel_rfl) (fun _ _ _ h => h) (by rfl) ?_ (by assumption) ?_
    · intro w hSw
      skip
      go_simp
    simp only [Act.put, List.setIfInBounds_toArray, List.set_cons_zero, List.set_cons_succ]
    refine wpAnyH_ready (rs := [1, 3]) (by kernel_rfl) (by simp) (AllReadyH.cons (at_drop (i := 1) rfl) (fun K2 hK => ?_) (AllReadyH.cons (at_drop (i := 3) rfl) (fun K2 hK => ?_) (AllReadyH.nil)))
    · obtain ⟨Y1, hY1⟩ : ∃ Y1, Y1 = Z.alloc (.cells #[.int .i64 (-1), .int .i64 0, .int .i64 100, .int .i64 101] 2) := ⟨_, rfl⟩
      have hb : Below Z.heap.size Z Y1 := by rw [hY1]; exact nbel_alloc _ _
      obtain ⟨gq, hgq⟩ : ∃ gq, gq = Z.heap.size := ⟨_, rfl⟩
      have HQ : Hid (Y1.rowIs gq 2 4 (rowN [.int .i64 (-1), .int .i64 0, .int .i64 100, .int .i64 101])) := by show World.rowIs _ _ _ _ _; rw [hY1, hgq]; exact rowN_alloc _ _ _
      have HQL : Hid (sb < gq ∧ w.heap.size < gq) := by
        have := HD.out.sb1; have := HD.out.z1; have := HD.out.z2; have := HD.out.sbl
        exact ⟨by omega, by omega⟩
      replace HD := Lib.hid (HD.out.below hb)
      go_simp
      rw [← hY1, ← hgq]
      refine hK.out _ _ HD.out.row (fun hHeld2 => ?_)
      clear hK hHeld
      have hHeld := hHeld2
      clear hHeld2
      clear hb hY1 hgq
      refine wpAnyH_ready (rs := [3]) (by kernel_rfl) (by simp) (AllReadyH.cons (at_drop (i := 3) rfl) (fun K2 hK => ?_) (AllReadyH.nil))
      go_simp
      refine (n_any sb 4 _ (HD.out.src rfl) (by omega)).mono ?_
      rintro e Y2 ⟨⟨z, rfl, z0, z1, _⟩, hD⟩
      have zb : 0 ≤ z ∧ z < 4 := by have := z1 (by omega); omega
      replace HD := Lib.hid (HD.out.draw hD)
      replace HQ := Lib.hid (md_chg HQ.out (by have := HQL.out; omega) hD.2)
      clear hD z0 z1
      go_wp2_with fail
      refine hK.out _ _ HD.out.row (fun hHeld2 => ?_)
      clear hK hHeld
      have hHeld := hHeld2
      clear hHeld2
      refine take_do (i := 4) (v := (.pointer (some ⟨gq, z.toNat, none⟩))) rfl (by kernel_rfl) (by kernel_rfl) (by kernel_rfl) (fun _ _ _ h => h) (by rfl) ?_ (by assumption) ?_
      · intro w hSw
        skip
        go_simp
        try (intro hq; exfalso; omega)
      simp only [Act.put, List.setIfInBounds_toArray, List.set_cons_zero, List.set_cons_succ]
      refine wpAnyH_ready (rs := [5, 6]) (by kernel_rfl) (by simp) (AllReadyH.cons (at_drop (i := 5) rfl) (fun K2 hK => ?_) (AllReadyH.cons (at_drop (i := 6) rfl) (fun K2 hK => ?_) (AllReadyH.nil)))
      · obtain ⟨rd, hV, hr⟩ : ∃ rd : Int, Y2.cell? ⟨gq, z.toNat, none⟩ = some (.int .i64 rd) ∧ (-1 ≤ rd ∧ rd ≤ 101) := by
          obtain ⟨⟨c0, c1, c2, c3⟩, _⟩ := rowN4 HQ.out
          have h5 : z.toNat = 0 ∨ z.toNat = 1 ∨ z.toNat = 2 ∨ z.toNat = 3 := by omega
          rcases h5 with h | h | h | h <;> rw [h]
          · exact ⟨_, c0, by omega, by omega⟩
          · exact ⟨_, c1, by omega, by omega⟩
          · exact ⟨_, c2, by omega, by omega⟩
          · exact ⟨_, c3, by omega, by omega⟩
        go_simp
        refine hK.out _ _ HD.out.row (fun hHeld2 => ?_)
        clear hK hHeld
        have hHeld := hHeld2
        clear hHeld2
        clear hV HQ HQL
        refine wpAnyH_ready (rs := [6]) (by kernel_rfl) (by simp) (AllReadyH.cons (at_drop (i := 6) rfl) (fun K2 hK => ?_) (AllReadyH.nil))
        obtain ⟨⟨o0, o1, o2, o3, o4⟩, z0, z1, z2, z3, z4⟩ := rowN5 HD.out.res
        have hol := HD.out.res.lt
        obtain ⟨Y3, hY3⟩ : ∃ Y, Y = (((((Y2.setCell ⟨w.heap.size, 0, none⟩ (.int .i64 m.nodes)).setCell ⟨w.heap.size, 1, none⟩ (.int .i64 m.head)).setCell ⟨w.heap.size, 2, none⟩ (.slice pa m.pn pk)).setCell ⟨w.heap.size, 3, none⟩ (.slice la m.ln lk)).setCell ⟨w.heap.size, 4, none⟩ (.slice wa m.wn wk)) := ⟨_, rfl⟩
        replace HD : Hid (DS false w w1 w2 sb G (mnL m pa pk la lk wa wk) (mnL m pa pk la lk wa wk) Y3) := by show DS _ _ _ _ _ _ _ _ _; rw [hY3]; exact HD.out.put _ _ _ _ _
        go_simp
        rw [← hY3]
        refine hK.out _ _ HD.out.row (fun hHeld2 => ?_)
        clear hK hHeld
        have hHeld := hHeld2
        clear hHeld2
        clear hY3 o0 o1 o2 o3 o4 z0 z1 z2 z3 z4 hol
        refine take_do (i := 7) (v := (.int .i64 rd)) rfl (by kernel_rfl) (by kernel_rfl) (by kernel_rfl) (fun _ _ _ h => h) (by rfl) ?_ (by assumption) ?_
        · intro w hSw
          skip
          go_simp
        simp only [Act.put, List.setIfInBounds_toArray, List.set_cons_zero, List.set_cons_succ]
        refine wpAnyH_done (by kernel_rfl) ?_ _
        obtain ⟨⟨c0, c1, c2, c3, c4⟩, _⟩ := rowN5 HD.out.res
        go_wp2_with fail
        exact bodyPost_ret (v := .tuple #[mnV m pa pk la lk wa wk, .int .i64 rd]) (by simp only [results, Tryz.results7]; simp [go_sem, c0, c1, c2, c3, c4]) rfl ⟨⟨m, pa, pk, la, lk, wa, wk, rd, rfl, HAT.out _ (fun k h1 h2 => HD.out.ag k h1 h2), HLN.out, by omega, by omega⟩, HD.out.old⟩
      · obtain ⟨⟨o0, o1, o2, o3, o4⟩, z0, z1, z2, z3, z4⟩ := rowN5 HD.out.res
        have hol := HD.out.res.lt
        obtain ⟨Y4, hY4⟩ : ∃ Y, Y = (((((Y2.setCell ⟨w.heap.size, 0, none⟩ (.int .i64 m.nodes)).setCell ⟨w.heap.size, 1, none⟩ (.int .i64 m.head)).setCell ⟨w.heap.size, 2, none⟩ (.slice pa m.pn pk)).setCell ⟨w.heap.size, 3, none⟩ (.slice la m.ln lk)).setCell ⟨w.heap.size, 4, none⟩ (.slice wa m.wn wk)) := ⟨_, rfl⟩
        replace HD : Hid (DS false w w1 w2 sb G (mnL m pa pk la lk wa wk) (mnL m pa pk la lk wa wk) Y4) := by show DS _ _ _ _ _ _ _ _ _; rw [hY4]; exact HD.out.put _ _ _ _ _
        replace HQ : Hid (Y4.rowIs gq 2 4 (rowN [.int .i64 (-1), .int .i64 0, .int .i64 100, .int .i64 101])) := by show World.rowIs _ _ _ _ _; rw [hY4]; exact ds_keep HQ.out (by have := HQL.out; omega) _ _ _ _ _
        go_simp
        rw [← hY4]
        refine hK.out _ _ HD.out.row (fun hHeld2 => ?_)
        clear hK hHeld
        have hHeld := hHeld2
        clear hHeld2
        clear hY4 o0 o1 o2 o3 o4 z0 z1 z2 z3 z4 hol
        refine wpAnyH_ready (rs := [5]) (by kernel_rfl) (by simp) (AllReadyH.cons (at_drop (i := 5) rfl) (fun K2 hK => ?_) (AllReadyH.nil))
        obtain ⟨rd, hV, hr⟩ : ∃ rd : Int, Y4.cell? ⟨gq, z.toNat, none⟩ = some (.int .i64 rd) ∧ (-1 ≤ rd ∧ rd ≤ 101) := by
          obtain ⟨⟨c0, c1, c2, c3⟩, _⟩ := rowN4 HQ.out
          have h5 : z.toNat = 0 ∨ z.toNat = 1 ∨ z.toNat = 2 ∨ z.toNat = 3 := by omega
          rcases h5 with h | h | h | h <;> rw [h]
          · exact ⟨_, c0, by omega, by omega⟩
          · exact ⟨_, c1, by omega, by omega⟩
          · exact ⟨_, c2, by omega, by omega⟩
          · exact ⟨_, c3, by omega, by omega⟩
        go_simp
        refine hK.out _ _ HD.out.row (fun hHeld2 => ?_)
        clear hK hHeld
        have hHeld := hHeld2
        clear hHeld2
        clear hV HQ HQL
        refine take_do (i := 7) (v := (.int .i64 rd)) rfl (by kernel_rfl) (by kernel_rfl) (by kernel_rfl) (fun _ _ _ h => h) (by rfl) ?_ (by assumption) ?_
        · intro w hSw
          skip
          go_simp
        simp only [Act.put, List.setIfInBounds_toArray, List.set_cons_zero, List.set_cons_succ]
        refine wpAnyH_done (by kernel_rfl) ?_ _
        obtain ⟨⟨c0, c1, c2, c3, c4⟩, _⟩ := rowN5 HD.out.res
        go_wp2_with fail
        exact bodyPost_ret (v := .tuple #[mnV m pa pk la lk wa wk, .int .i64 rd]) (by simp only [results, Tryz.results7]; simp [go_sem, c0, c1, c2, c3, c4]) rfl ⟨⟨m, pa, pk, la, lk, wa, wk, rd, rfl, HAT.out _ (fun k h1 h2 => HD.out.ag k h1 h2), HLN.out, by omega, by omega⟩, HD.out.old⟩
    · go_simp
      refine (n_any sb 4 _ (HD.out.src rfl) (by omega)).mono ?_
      rintro e Y5 ⟨⟨z, rfl, z0, z1, _⟩, hD⟩
      have zb : 0 ≤ z ∧ z < 4 := by have := z1 (by omega); omega
      replace HD := Lib.hid (HD.out.draw hD)
      clear hD z0 z1
      go_wp2_with fail
      refine hK.out _ _ HD.out.row (fun hHeld2 => ?_)
      clear hK hHeld
      have hHeld := hHeld2
      clear hHeld2
      refine wpAnyH_ready (rs := [1, 6]) (by kernel_rfl) (by simp) (AllReadyH.cons (at_drop (i := 1) rfl) (fun K2 hK => ?_) (AllReadyH.cons (at_drop (i := 6) rfl) (fun K2 hK => ?_) (AllReadyH.nil)))
      · obtain ⟨Y6, hY6⟩ : ∃ Y6, Y6 = Y5.alloc (.cells #[.int .i64 (-1), .int .i64 0, .int .i64 100, .int .i64 101] 2) := ⟨_, rfl⟩
        have hb : Below Y5.heap.size Y5 Y6 := by rw [hY6]; exact nbel_alloc _ _
        obtain ⟨gq, hgq⟩ : ∃ gq, gq = Y5.heap.size := ⟨_, rfl⟩
        have HQ : Hid (Y6.rowIs gq 2 4 (rowN [.int .i64 (-1), .int .i64 0, .int .i64 100, .int .i64 101])) := by show World.rowIs _ _ _ _ _; rw [hY6, hgq]; exact rowN_alloc _ _ _
        have HQL : Hid (sb < gq ∧ w.heap.size < gq) := by
          have := HD.out.sb1; have := HD.out.z1; have := HD.out.z2; have := HD.out.sbl
          exact ⟨by omega, by omega⟩
        replace HD := Lib.hid (HD.out.below hb)
        go_simp
        rw [← hY6, ← hgq]
        refine hK.out _ _ HD.out.row (fun hHeld2 => ?_)
        clear hK hHeld
        have hHeld := hHeld2
        clear hHeld2
        clear hb hY6 hgq
        refine take_do (i := 4) (v := (.pointer (some ⟨gq, z.toNat, none⟩))) rfl (by kernel_rfl) (by kernel_rfl) (by kernel_rfl) (fun _ _ _ h => h) (by rfl) ?_ (by assumption) ?_
        · intro w hSw
          skip
          go_simp
          try (intro hq; exfalso; omega)
        simp only [Act.put, List.setIfInBounds_toArray, List.set_cons_zero, List.set_cons_succ]
        refine wpAnyH_ready (rs := [5, 6]) (by kernel_rfl) (by simp) (AllReadyH.cons (at_drop (i := 5) rfl) (fun K2 hK => ?_) (AllReadyH.cons (at_drop (i := 6) rfl) (fun K2 hK => ?_) (AllReadyH.nil)))
        · obtain ⟨rd, hV, hr⟩ : ∃ rd : Int, Y6.cell? ⟨gq, z.toNat, none⟩ = some (.int .i64 rd) ∧ (-1 ≤ rd ∧ rd ≤ 101) := by
            obtain ⟨⟨c0, c1, c2, c3⟩, _⟩ := rowN4 HQ.out
            have h5 : z.toNat = 0 ∨ z.toNat = 1 ∨ z.toNat = 2 ∨ z.toNat = 3 := by omega
            rcases h5 with h | h | h | h <;> rw [h]
            · exact ⟨_, c0, by omega, by omega⟩
            · exact ⟨_, c1, by omega, by omega⟩
            · exact ⟨_, c2, by omega, by omega⟩
            · exact ⟨_, c3, by omega, by omega⟩
          go_simp
          refine hK.out _ _ HD.out.row (fun hHeld2 => ?_)
          clear hK hHeld
          have hHeld := hHeld2
          clear hHeld2
          clear hV HQ HQL
          refine wpAnyH_ready (rs := [6]) (by kernel_rfl) (by simp) (AllReadyH.cons (at_drop (i := 6) rfl) (fun K2 hK => ?_) (AllReadyH.nil))
          obtain ⟨⟨o0, o1, o2, o3, o4⟩, z0, z1, z2, z3, z4⟩ := rowN5 HD.out.res
          have hol := HD.out.res.lt
          obtain ⟨Y7, hY7⟩ : ∃ Y, Y = (((((Y6.setCell ⟨w.heap.size, 0, none⟩ (.int .i64 m.nodes)).setCell ⟨w.heap.size, 1, none⟩ (.int .i64 m.head)).setCell ⟨w.heap.size, 2, none⟩ (.slice pa m.pn pk)).setCell ⟨w.heap.size, 3, none⟩ (.slice la m.ln lk)).setCell ⟨w.heap.size, 4, none⟩ (.slice wa m.wn wk)) := ⟨_, rfl⟩
          replace HD : Hid (DS false w w1 w2 sb G (mnL m pa pk la lk wa wk) (mnL m pa pk la lk wa wk) Y7) := by show DS _ _ _ _ _ _ _ _ _; rw [hY7]; exact HD.out.put _ _ _ _ _
          go_simp
          rw [← hY7]
          refine hK.out _ _ HD.out.row (fun hHeld2 => ?_)
          clear hK hHeld
          have hHeld := hHeld2
          clear hHeld2
          clear hY7 o0 o1 o2 o3 o4 z0 z1 z2 z3 z4 hol
          refine take_do (i := 7) (v := (.int .i64 rd)) rfl (by kernel_rfl) (by kernel_rfl) (by kernel_rfl) (fun _ _ _ h => h) (by rfl) ?_ (by assumption) ?_
          · intro w hSw
            skip
            go_simp
          simp only [Act.put, List.setIfInBounds_toArray, List.set_cons_zero, List.set_cons_succ]
          refine wpAnyH_done (by kernel_rfl) ?_ _
          obtain ⟨⟨c0, c1, c2, c3, c4⟩, _⟩ := rowN5 HD.out.res
          go_wp2_with fail
          exact bodyPost_ret (v := .tuple #[mnV m pa pk la lk wa wk, .int .i64 rd]) (by simp only [results, Tryz.results7]; simp [go_sem, c0, c1, c2, c3, c4]) rfl ⟨⟨m, pa, pk, la, lk, wa, wk, rd, rfl, HAT.out _ (fun k h1 h2 => HD.out.ag k h1 h2), HLN.out, by omega, by omega⟩, HD.out.old⟩
        · obtain ⟨⟨o0, o1, o2, o3, o4⟩, z0, z1, z2, z3, z4⟩ := rowN5 HD.out.res
          have hol := HD.out.res.lt
          obtain ⟨Y8, hY8⟩ : ∃ Y, Y = (((((Y6.setCell ⟨w.heap.size, 0, none⟩ (.int .i64 m.nodes)).setCell ⟨w.heap.size, 1, none⟩ (.int .i64 m.head)).setCell ⟨w.heap.size, 2, none⟩ (.slice pa m.pn pk)).setCell ⟨w.heap.size, 3, none⟩ (.slice la m.ln lk)).setCell ⟨w.heap.size, 4, none⟩ (.slice wa m.wn wk)) := ⟨_, rfl⟩
          replace HD : Hid (DS false w w1 w2 sb G (mnL m pa pk la lk wa wk) (mnL m pa pk la lk wa wk) Y8) := by show DS _ _ _ _ _ _ _ _ _; rw [hY8]; exact HD.out.put _ _ _ _ _
          replace HQ : Hid (Y8.rowIs gq 2 4 (rowN [.int .i64 (-1), .int .i64 0, .int .i64 100, .int .i64 101])) := by show World.rowIs _ _ _ _ _; rw [hY8]; exact ds_keep HQ.out (by have := HQL.out; omega) _ _ _ _ _
          go_simp
          rw [← hY8]
          refine hK.out _ _ HD.out.row (fun hHeld2 => ?_)
          clear hK hHeld
          have hHeld := hHeld2
          clear hHeld2
          clear hY8 o0 o1 o2 o3 o4 z0 z1 z2 z3 z4 hol
          refine wpAnyH_ready (rs := [5]) (by kernel_rfl) (by simp) (AllReadyH.cons (at_drop (i := 5) rfl) (fun K2 hK => ?_) (AllReadyH.nil))
          obtain ⟨rd, hV, hr⟩ : ∃ rd : Int, Y8.cell? ⟨gq, z.toNat, none⟩ = some (.int .i64 rd) ∧ (-1 ≤ rd ∧ rd ≤ 101) := by
            obtain ⟨⟨c0, c1, c2, c3⟩, _⟩ := rowN4 HQ.out
            have h5 : z.toNat = 0 ∨ z.toNat = 1 ∨ z.toNat = 2 ∨ z.toNat = 3 := by omega
            rcases h5 with h | h | h | h <;> rw [h]
            · exact ⟨_, c0, by omega, by omega⟩
            · exact ⟨_, c1, by omega, by omega⟩
            · exact ⟨_, c2, by omega, by omega⟩
            · exact ⟨_, c3, by omega, by omega⟩
          go_simp
          refine hK.out _ _ HD.out.row (fun hHeld2 => ?_)
          clear hK hHeld
          have hHeld := hHeld2
          clear hHeld2
          clear hV HQ HQL
          refine take_do (i := 7) (v := (.int .i64 rd)) rfl (by kernel_rfl) (by kernel_rfl) (by kernel_rfl) (fun _ _ _ h => h) (by rfl) ?_ (by assumption) ?_
          · intro w hSw
            skip
            go_simp
          simp only [Act.put, List.setIfInBounds_toArray, List.set_cons_zero, List.set_cons_succ]
          refine wpAnyH_done (by kernel_rfl) ?_ _
          obtain ⟨⟨c0, c1, c2, c3, c4⟩, _⟩ := rowN5 HD.out.res
          go_wp2_with fail
          exact bodyPost_ret (v := .tuple #[mnV m pa pk la lk wa wk, .int .i64 rd]) (by simp only [results, Tryz.results7]; simp [go_sem, c0, c1, c2, c3, c4]) rfl ⟨⟨m, pa, pk, la, lk, wa, wk, rd, rfl, HAT.out _ (fun k h1 h2 => HD.out.ag k h1 h2), HLN.out, by omega, by omega⟩, HD.out.old⟩
      · obtain ⟨⟨o0, o1, o2, o3, o4⟩, z0, z1, z2, z3, z4⟩ := rowN5 HD.out.res
        have hol := HD.out.res.lt
        obtain ⟨Y9, hY9⟩ : ∃ Y, Y = (((((Y5.setCell ⟨w.heap.size, 0, none⟩ (.int .i64 m.nodes)).setCell ⟨w.heap.size, 1, none⟩ (.int .i64 m.head)).setCell ⟨w.heap.size, 2, none⟩ (.slice pa m.pn pk)).setCell ⟨w.heap.size, 3, none⟩ (.slice la m.ln lk)).setCell ⟨w.heap.size, 4, none⟩ (.slice wa m.wn wk)) := ⟨_, rfl⟩
        replace HD : Hid (DS false w w1 w2 sb G (mnL m pa pk la lk wa wk) (mnL m pa pk la lk wa wk) Y9) := by show DS _ _ _ _ _ _ _ _ _; rw [hY9]; exact HD.out.put _ _ _ _ _
        go_simp
        rw [← hY9]
        refine hK.out _ _ HD.out.row (fun hHeld2 => ?_)
        clear hK hHeld
        have hHeld := hHeld2
        clear hHeld2
        clear hY9 o0 o1 o2 o3 o4 z0 z1 z2 z3 z4 hol
        refine wpAnyH_ready (rs := [1]) (by kernel_rfl) (by simp) (AllReadyH.cons (at_drop (i := 1) rfl) (fun K2 hK => ?_) (AllReadyH.nil))
        obtain ⟨Y10, hY10⟩ : ∃ Y10, Y10 = Y9.alloc (.cells #[.int .i64 (-1), .int .i64 0, .int .i64 100, .int .i64 101] 2) := ⟨_, rfl⟩
        have hb : Below Y9.heap.size Y9 Y10 := by rw [hY10]; exact nbel_alloc _ _
        obtain ⟨gq, hgq⟩ : ∃ gq, gq = Y9.heap.size := ⟨_, rfl⟩
        have HQ : Hid (Y10.rowIs gq 2 4 (rowN [.int .i64 (-1), .int .i64 0, .int .i64 100, .int .i64 101])) := by show World.rowIs _ _ _ _ _; rw [hY10, hgq]; exact rowN_alloc _ _ _
        have HQL : Hid (sb < gq ∧ w.heap.size < gq) := by
          have := HD.out.sb1; have := HD.out.z1; have := HD.out.z2; have := HD.out.sbl
          exact ⟨by omega, by omega⟩
        replace HD := Lib.hid (HD.out.below hb)
        go_simp
        rw [← hY10, ← hgq]
        refine hK.out _ _ HD.out.row (fun hHeld2 => ?_)
        clear hK hHeld
        have hHeld := hHeld2
        clear hHeld2
        clear hb hY10 hgq
        refine take_do (i := 4) (v := (.pointer (some ⟨gq, z.toNat, none⟩))) rfl (by kernel_rfl) (by kernel_rfl) (by kernel_rfl) (fun _ _ _ h => h) (by rfl) ?_ (by assumption) ?_
        · intro w hSw
          skip
          go_simp
          try (intro hq; exfalso; omega)
        simp only [Act.put, List.setIfInBounds_toArray, List.set_cons_zero, List.set_cons_succ]
        refine wpAnyH_ready (rs := [5]) (by kernel_rfl) (by simp) (AllReadyH.cons (at_drop (i := 5) rfl) (fun K2 hK => ?_) (AllReadyH.nil))
        obtain ⟨rd, hV, hr⟩ : ∃ rd : Int, Y10.cell? ⟨gq, z.toNat, none⟩ = some (.int .i64 rd) ∧ (-1 ≤ rd ∧ rd ≤ 101) := by
          obtain ⟨⟨c0, c1, c2, c3⟩, _⟩ := rowN4 HQ.out
          have h5 : z.toNat = 0 ∨ z.toNat = 1 ∨ z.toNat = 2 ∨ z.toNat = 3 := by omega
          rcases h5 with h | h | h | h <;> rw [h]
          · exact ⟨_, c0, by omega, by omega⟩
          · exact ⟨_, c1, by omega, by omega⟩
          · exact ⟨_, c2, by omega, by omega⟩
          · exact ⟨_, c3, by omega, by omega⟩
        go_simp
        refine hK.out _ _ HD.out.row (fun hHeld2 => ?_)
        clear hK hHeld
        have hHeld := hHeld2
        clear hHeld2
        clear hV HQ HQL
        refine take_do (i := 7) (v := (.int .i64 rd)) rfl (by kernel_rfl) (by kernel_rfl) (by kernel_rfl) (fun _ _ _ h => h) (by rfl) ?_ (by assumption) ?_
        · intro w hSw
          skip
          go_simp
        simp only [Act.put, List.setIfInBounds_toArray, List.set_cons_zero, List.set_cons_succ]
        refine wpAnyH_done (by kernel_rfl) ?_ _
        obtain ⟨⟨c0, c1, c2, c3, c4⟩, _⟩ := rowN5 HD.out.res
        go_wp2_with fail
        exact bodyPost_ret (v := .tuple #[mnV m pa pk la lk wa wk, .int .i64 rd]) (by simp only [results, Tryz.results7]; simp [go_sem, c0, c1, c2, c3, c4]) rfl ⟨⟨m, pa, pk, la, lk, wa, wk, rd, rfl, HAT.out _ (fun k h1 h2 => HD.out.ag k h1 h2), HLN.out, by omega, by omega⟩, HD.out.old⟩
  | false =>
    go_wp2_with fail
    refine wp_region_held_drew (S := fun V => V.rowIs G 27 5 (rowN (mnL m pa pk la lk wa wk))) (by kernel_rfl) (nrow_below HD.out.row (Below.refl _ _).drew) (fun hHeld => ?_)
    obtain ⟨Z, hZ⟩ : ∃ Z, Z = w4.drew := ⟨_, rfl⟩
    replace HD := Lib.hid (HD.out.below (Below.refl _ _).drew)
    rw [← hZ] at hHeld HD ⊢
    clear hZ
    refine take_do (i := 0) (v := (mnV m pa pk la lk wa wk)) rfl (by kernel_rfl) (by kernel_rfl) (by kernel_rfl) (fun _ _ _ h => h) (by rfl) ?_ (by assumption) ?_
    · intro w hSw
      obtain ⟨⟨x0, x1, x2, x3, x4⟩, _⟩ := rowN5 hSw
      go_simp
    simp only [Act.put, List.setIfInBounds_toArray, List.set_cons_zero, List.set_cons_succ]
    refine take_do (i := 1) (v := (.pointer (some ⟨sb, 0, none⟩))) rfl (by kernel_rfl) (by kernel_rfl) (by kernel_rfl) (fun _ _ _ h => h) (by rfl) ?_ (by assumption) ?_
    · intro w hSw
      skip
      go_simp
    simp only [Act.put, List.setIfInBounds_toArray, List.set_cons_zero, List.set_cons_succ]
    refine wpAnyH_ready (rs := [2]) (by kernel_rfl) (by simp) (AllReadyH.cons (at_drop (i := 2) rfl) (fun K2 hK => ?_) (AllReadyH.nil))
    go_simp
    refine (n_any sb 30 _ (HD.out.src rfl) (by omega)).mono ?_
    rintro e Y11 ⟨⟨rd, rfl, rd0, rd1, _⟩, hD⟩
    have rdb : 0 ≤ rd ∧ rd < 30 := by have := rd1 (by omega); omega
    replace HD := Lib.hid (HD.out.draw hD)
    clear hD rd0 rd1
    go_wp2_with fail
    refine hK.out _ _ HD.out.row (fun hHeld2 => ?_)
    clear hK hHeld
    have hHeld := hHeld2
    clear hHeld2
    refine wpAnyH_ready (rs := [3]) (by kernel_rfl) (by simp) (AllReadyH.cons (at_drop (i := 3) rfl) (fun K2 hK => ?_) (AllReadyH.nil))
    obtain ⟨⟨o0, o1, o2, o3, o4⟩, z0, z1, z2, z3, z4⟩ := rowN5 HD.out.res
    have hol := HD.out.res.lt
    obtain ⟨Y12, hY12⟩ : ∃ Y, Y = (((((Y11.setCell ⟨w.heap.size, 0, none⟩ (.int .i64 m.nodes)).setCell ⟨w.heap.size, 1, none⟩ (.int .i64 m.head)).setCell ⟨w.heap.size, 2, none⟩ (.slice pa m.pn pk)).setCell ⟨w.heap.size, 3, none⟩ (.slice la m.ln lk)).setCell ⟨w.heap.size, 4, none⟩ (.slice wa m.wn wk)) := ⟨_, rfl⟩
    replace HD : Hid (DS false w w1 w2 sb G (mnL m pa pk la lk wa wk) (mnL m pa pk la lk wa wk) Y12) := by show DS _ _ _ _ _ _ _ _ _; rw [hY12]; exact HD.out.put _ _ _ _ _
    go_simp
    rw [← hY12]
    refine hK.out _ _ HD.out.row (fun hHeld2 => ?_)
    clear hK hHeld
    have hHeld := hHeld2
    clear hHeld2
    clear hY12 o0 o1 o2 o3 o4 z0 z1 z2 z3 z4 hol
    refine take_do (i := 4) (v := (.int .i64 rd)) rfl (by kernel_rfl) (by kernel_rfl) (by kernel_rfl) (fun _ _ _ h => h) (by rfl) ?_ (by assumption) ?_
    · intro w hSw
      skip
      go_simp
    simp only [Act.put, List.setIfInBounds_toArray, List.set_cons_zero, List.set_cons_succ]
    refine wpAnyH_done (by kernel_rfl) ?_ _
    obtain ⟨⟨c0, c1, c2, c3, c4⟩, _⟩ := rowN5 HD.out.res
    go_wp2_with fail
    exact bodyPost_ret (v := .tuple #[mnV m pa pk la lk wa wk, .int .i64 rd]) (by simp only [results, Tryz.results7]; simp [go_sem, c0, c1, c2, c3, c4]) rfl ⟨⟨m, pa, pk, la, lk, wa, wk, rd, rfl, HAT.out _ (fun k h1 h2 => HD.out.ag k h1 h2), HLN.out, by omega, by omega⟩, HD.out.old⟩
end Go.Proofs.YtfgmalnkpgloiaaGreatDoor
