/-
  What a run of a tube leaves; an append of a list of parcels.
-/
import Derived.Test.YtjmnehlgefpheaaDoorTbDu
import Derived.Test.YtjmnehlgefpheaaDoorTbLawP
namespace Go.Proofs.YtjmnehlgefpheaaDoor
open Go.RowKit Go.Deep

namespace Tb
theorem runA_ok {m : Int} (h0 : 0 ≤ m) (h1 : m ≤ 1000) {r : Int} : ∀ (ps Q O : List Pc), Fill r Q → (∀ p, p ∈ O → Ok p) → (runA m Q O ps).1 = 0 → (∀ p, p ∈ ps → Ok p) ∧ (∀ p, p ∈ (runA m Q O ps).2.2 → Ok p) := by
  intro ps
  induction ps with
  | nil => intro Q O _ hO _; exact ⟨fun p hp => (by cases hp), by simpa [runA] using hO⟩
  | cons p ps ih =>
    intro Q O hQ hO hc
    by_cases h : Ok p
    · by_cases h2 : 60 < (psh Q p).2.length
      · rw [runA_over h h2] at hc; simp at hc
      · rw [runA_on h (by omega)] at hc ⊢
        obtain ⟨a1, a2, a3, a4, a5, a6, a7, a8⟩ := psh_all hQ h
        obtain ⟨b1, b2⟩ := ih _ (O ++ (psh Q p).1) (psh_fill hQ h (by omega) h0 h1) (fun q hq => by
          rcases List.mem_append.1 hq with hq | hq
          · exact hO q hq
          · exact a3 q hq) hc
        refine ⟨fun q hq => ?_, b2⟩
        rcases List.mem_cons.1 hq with hq | hq
        · rw [hq]; exact h
        · exact b1 q hq
    · rw [runA_bad h] at hc; simp at hc
/-- What a run that goes well tells. -/
structure RunF (m r : Int) (l pl : List Pc) (X : Int × List Pc × List Pc) : Prop where
  tl : ∀ p, p ∈ l → Ok p
  ps : ∀ p, p ∈ pl → Ok p
  rt : Right r X.2.1
  out : ∀ p, p ∈ X.2.2 → Ok p
  wat : wat X.2.2 = wat pl
  gra : m = 0 → gra l + gra pl = gra X.2.1 + gra X.2.2
end Tb
theorem run_facts {m r : Int} {l pl : List Tb.Pc} (h : (runX m r l pl).1 = 0) : Tb.RunF m r l pl (runX m r l pl) := by
  unfold runX at h ⊢
  split at h
  · simp at h
  · rename_i hn
    rw [if_neg hn]
    by_cases hy : (0 ≤ m ∧ m ≤ 1000) ∧ Tb.Right r l
    · rw [Tb.runOf_yes hy] at h ⊢
      have hF := Tb.right_fill hy.2
      obtain ⟨b1, b2, b3⟩ := Tb.runA_book hy.1.1 hy.1.2 pl _ [] hF h
      obtain ⟨c1, c2⟩ := Tb.runA_ok hy.1.1 hy.1.2 pl _ [] hF (fun p hp => by cases hp) h
      refine ⟨hy.2.2.1, c1, Tb.fill_right (by simpa using b1), c2, by rw [b2]; simp [Tb.wat], fun hm => ?_⟩
      have := b3 hm
      simp only [Tb.gra_rev, Tb.gra] at this ⊢
      omega
    · rw [Tb.runOf_no hy] at h
      simp at h
theorem step_append_owl {P : Program} {ops : Array Oper} {o : Oper} {a : Act} {w : World} {K : Act → World → Prop} {Q : Exit → Act → World → Prop} {E : Prop}
    (hg : o.guard = none) (s x : Operand) (t : TypeId) (hop : o.op = Op.call { callee := Callee.builtin Builtin.append, args := #[s, x], argTypes := #[t, t] }) (B : Nat)
    (e : TypeId) (i : TypeInfo) (z : Value) (bytes : Nat) (h1 : P.underlying t = some (.slice e)) (h2 : P.info? e = some i) (h3 : i.zero = some z) (h4 : i.size = 3) (h5 : i.bytes = bytes) (h6 : z.cells.size = 3)
    (v : Value) (hs : a.eval s = v) (hown : w.ownsRow B e 3 v 0 [])
    (B' : Nat) (pa : Option Addr) (kp : Nat) (pl : List Tb.Pc) (hx : a.eval x = .slice pa pl.length kp) (hpl : OwL e B' (pl.length * 3) pa kp (Tb.fl pl) w)
    (b1 : pl.length ≤ maxLen) (b2 : pl.length * bytes ≤ 140737488355328) (hB : B ≤ w.heap.size)
    (hK : ∀ v' w', w'.ownsRow B e 3 v' pl.length (pv pl) → w.grownBy w' v.ownBlock → K (a.put o.dst v') w') :
    if Region.wanted o (yielded ops a.tmps) = true then Oper.wp P o a w K Q else E := by
  rcases hpl with ⟨e0, e1, e2⟩ | ⟨g, rfl, _, hb⟩
  · have hl : pl = [] := by cases pl with
      | nil => rfl
      | cons p q => simp at e1
    subst e0 e2 hl
    have hw : Region.wanted o (yielded ops a.tmps) = true := by simp [Region.wanted, hg]
    rw [if_pos hw]
    have hrun := run_append_owned_none (P := P) (w := w) B t o.type e i 3 h1 h2 v 0 [] hown
    have hx' : a.eval x = .slice none 0 0 := hx
    unfold Oper.wp
    simp [execOp, hop, resolve, invoke, builtin, hs, hx', hrun, Result.andThen]
    exact hK v w hown ⟨rfl, rfl, rfl, Nat.le_refl _, fun _ _ _ => rfl⟩
  · refine step_append_at hg s x t hop B e i z 3 bytes h1 h2 h3 h4 h5 h6 (by decide) v 0 [] hs hown ⟨g, 0, none⟩ pl.length kp (pv pl) hx (pv_len _) ?_ (fun u hu => by obtain ⟨z, rfl⟩ := pv_undef hu; rfl) (by omega) (by rw [Nat.zero_add]; exact b2) hB (fun v' w' h h' => hK v' w' (by simpa using h) h')
    intro j u hj
    have hjl : j < pl.length * 3 := by
      have := (List.getElem?_eq_some_iff.1 hj).1
      rwa [pv_len] at this
    rw [pv_get pl hjl] at hj
    cases hj
    rcases hb.at_ with h | ⟨b, e, h⟩
    · omega
    · cases e
      rw [Addr.add_lit, Nat.zero_add]
      exact h j hjl
theorem to_code (r : Int) (a : Option Addr) (n k : Nat) (p : Option Addr) (m d : Nat) (c : Int) (w : World) : (Instr.field 29 (.agg #[.int .i64 r, .slice a n k, .slice p m d, .int .i64 c]) 2).run Tryd.prog w = .ok (.int .i64 c) w := by kernel_rfl
/-- What stands in the law between its calls. -/
structure BkS (tb : Nat) (r : Int) (aT : Option Addr) (l : List Tb.Pc) (c : Nat) (pa : Option Addr) (pl : List Tb.Pc) (kp : Nat) (w W : World) : Prop where
  row : W.rowIs tb 25 2 (rowN [.int .i64 r, .slice aT l.length c])
  tl : OwL 38 w.heap.size (l.length * 3) aT c (Tb.fl l) W
  ps : OwL 38 w.heap.size (pl.length * 3) pa kp (Tb.fl pl) W
  bel : Below w.heap.size w W
theorem BkS.below {tb : Nat} {r : Int} {aT : Option Addr} {l : List Tb.Pc} {c : Nat} {pa : Option Addr} {pl : List Tb.Pc} {kp : Nat} {w W W' : World} (h : BkS tb r aT l c pa pl kp w W) (hb : Below W.heap.size W W') : BkS tb r aT l c pa pl kp w W' :=
  ⟨nrow_below h.row hb, h.tl.below hb, h.ps.below hb, h.bel.trans (hb.mono h.bel.size)⟩
/-- How the program's run of a tube answers, when it goes well. -/
theorem implRun_ok {r : Int} {aT : Option Addr} {l : List Tb.Pc} {c : Nat} {pl : List Tb.Pc} {m : Int} {X : Ans} (hX : X = runX m r l pl) (hc : X.1 = 0) (a' : Option Addr) (c' : Nat) (W : World) (h : IsAt aT (l.length * 3) (Tb.fl l) W) (hp : IsAt a' (pl.length * 3) (Tb.fl pl) W) (hg : Et W ∧ TabOk W) :
    Calls Tryd.prog 9 #[tbV r aT l.length c, .slice a' pl.length c', .int .i64 m] W fun e w' => (∃ a k p d, e = .returned (toV r a X.2.1.length k p X.2.2.length d X.1) ∧ TwO W.heap.size a k X.2.1 p d X.2.2 w') ∧ Below W.heap.size W w' := by
  have := implRun_any r aT l c a' pl c' m W h hp hg
  rw [← hX] at this
  have hr : roomOf r X = r := by unfold roomOf; rw [if_pos hc]
  unfold TuEnd at this
  rw [hr] at this
  exact this
end Go.Proofs.YtjmnehlgefpheaaDoor
