/-
  A filling: plugs linked by pointers from a tube's end to its beginning; putting one on.
-/
import Derived.Test.YtjmnehlgefpheaaDoorTbI1
import Derived.Test.YtjmnehlgefpheaaDoorReg
namespace Go.Proofs.YtjmnehlgefpheaaDoor
open Go.RowKit Go.Deep

/-- Some blocks alone may have changed. -/
structure OnlyP (P : Nat → Prop) (w w' : World) : Prop where
  os : w'.os = w.os
  tape : w'.tape = w.tape
  output : w'.output = w.output
  size : w.heap.size ≤ w'.heap.size
  block : ∀ k, k < w.heap.size → ¬ P k → w'.heap[k]? = w.heap[k]?
theorem OnlyP.refl (P : Nat → Prop) (w : World) : OnlyP P w w := ⟨rfl, rfl, rfl, Nat.le_refl _, fun _ _ _ => rfl⟩
theorem OnlyP.of_below {P : Nat → Prop} {w w' : World} (h : Below w.heap.size w w') : OnlyP P w w' := ⟨h.os, h.tape, h.output, h.size, fun k hk _ => h.block k hk⟩
theorem OnlyP.trans {P R : Nat → Prop} {a b c : World} (h1 : OnlyP P a b) (h2 : OnlyP R b c) (h : ∀ k, k < a.heap.size → R k → P k) : OnlyP P a c := ⟨h2.os.trans h1.os, h2.tape.trans h1.tape, h2.output.trans h1.output, Nat.le_trans h1.size h2.size, fun k hk hp => (h2.block k (Nat.lt_of_lt_of_le hk h1.size) (fun hr => hp (h k hk hr))).trans (h1.block k hk hp)⟩
theorem OnlyP.mono {P R : Nat → Prop} {w w' : World} (h : OnlyP P w w') (hq : ∀ k, P k → R k) : OnlyP R w w' := ⟨h.os, h.tape, h.output, h.size, fun k hk hp => h.block k hk (fun e => hp (hq k e))⟩
theorem OnlyP.below {P : Nat → Prop} {B : Nat} {w w' : World} (h : OnlyP P w w') (h1 : ∀ k, P k → B ≤ k) (h2 : B ≤ w.heap.size) : Below B w w' := ⟨h.os, h.tape, h.output, h.size, fun k hk => h.block k (by omega) (fun e => by have := h1 k e; omega)⟩
theorem OnlyP.alloc {P : Nat → Prop} {w w' : World} (h : OnlyP P w w') (o : Obj) : OnlyP P w (w'.alloc o) := h.trans (OnlyP.of_below (P := P) (nbel_alloc w' o)) (fun _ _ h => h)
theorem OnlyP.set {P : Nat → Prop} {w w' : World} (h : OnlyP P w w') {p : Addr} (hp : P p.block) (x : Value) : OnlyP P w (w'.setCell p x) :=
  ⟨h.os, h.tape, h.output, by simpa using h.size, fun k hk hne => (blk_setCell_other _ _ _ _ (fun e => hne (by rw [e]; exact hp))).trans (h.block k hk hne)⟩
theorem OnlyP.drew {P : Nat → Prop} {w w' : World} (h : OnlyP P w w') : OnlyP P w w'.drew := ⟨h.os, h.tape, h.output, h.size, h.block⟩
theorem OnlyP.row {P : Nat → Prop} {w w' : World} (h : OnlyP P w w') {g : Nat} {t : TypeId} {m : Nat} {F : Nat → Value} (hr : w.rowIs g t m F) (hg : ¬ P g) : w'.rowIs g t m F := hr.of_block (h.block g hr.lt hg)

/-- Where the plug of a place lies, if there is one. -/
def nxA (G : Nat → Nat) (j n : Nat) : Option Addr := if j < n then some ⟨G j, 0, none⟩ else none
abbrev plL (p : Tb.Pc) (a : Option Addr) : List Value := [.int .i64 p.w, .int .i64 p.g, .int .i64 p.b, .pointer a]
abbrev fiL (e b : Option Addr) (n : Nat) : List Value := [.pointer e, .pointer b, .int .i64 (n : Int)]
/-- The plugs of a filling: the one at the end first. -/
structure Que (B h : Nat) (G : Nat → Nat) (Q : List Tb.Pc) (W : World) : Prop where
  fill : ∃ bg, W.rowIs h 93 3 (rowN (fiL (nxA G 0 Q.length) bg Q.length)) ∧ (0 < Q.length → bg = some ⟨G (Q.length - 1), 0, none⟩)
  node : ∀ j, j < Q.length → W.rowIs (G j) 99 4 (rowN (plL (Tb.pg Q j) (nxA G (j + 1) Q.length)))
  inj : ∀ i j, i < Q.length → j < Q.length → G i = G j → i = j
  lo : B ≤ h ∧ ∀ j, j < Q.length → B ≤ G j
  ne : ∀ j, j < Q.length → G j ≠ h
/-- The blocks of a filling. -/
def inQ (h : Nat) (G : Nat → Nat) (n : Nat) (k : Nat) : Prop := k = h ∨ ∃ j, j < n ∧ k = G j
theorem Que.same {B h : Nat} {G : Nat → Nat} {Q : List Tb.Pc} {W W' : World} (q : Que B h G Q W) (hb : ∀ k, inQ h G Q.length k → k < W.heap.size → W'.heap[k]? = W.heap[k]?) : Que B h G Q W' := by
  obtain ⟨bg, h1, h2⟩ := q.fill
  exact ⟨⟨bg, h1.of_block (hb h (Or.inl rfl) h1.lt), h2⟩, fun j hj => (q.node j hj).of_block (hb _ (Or.inr ⟨j, hj, rfl⟩) (q.node j hj).lt), q.inj, q.lo, q.ne⟩
theorem Que.below {B h : Nat} {G : Nat → Nat} {Q : List Tb.Pc} {W W' : World} (q : Que B h G Q W) (hb : Below W.heap.size W W') : Que B h G Q W' := q.same (fun k _ hk => hb.block k hk)
theorem Que.lt {B h : Nat} {G : Nat → Nat} {Q : List Tb.Pc} {W : World} (q : Que B h G Q W) {k : Nat} (hk : inQ h G Q.length k) : B ≤ k ∧ k < W.heap.size := by
  rcases hk with rfl | ⟨j, hj, rfl⟩
  · obtain ⟨bg, h1, _⟩ := q.fill
    exact ⟨q.lo.1, h1.lt⟩
  · exact ⟨q.lo.2 j hj, (q.node j hj).lt⟩
theorem Que.only {B h : Nat} {G : Nat → Nat} {Q : List Tb.Pc} {W W' : World} (q : Que B h G Q W) {P : Nat → Prop} (ho : OnlyP P W W') (hP : ∀ k, inQ h G Q.length k → ¬ P k) : Que B h G Q W' := q.same (fun k hk hl => ho.block k hl (hP k hk))
def updN (G : Nat → Nat) (i x : Nat) : Nat → Nat := fun j => if j = i then x else G j
namespace Tb
theorem pg_snoc_lt {Q : List Pc} {p : Pc} {j : Nat} (h : j < Q.length) : pg (Q ++ [p]) j = pg Q j := by
  unfold pg
  rw [List.getD_eq_getElem?_getD, List.getD_eq_getElem?_getD, List.getElem?_append_left h]
theorem pg_snoc {Q : List Pc} {p : Pc} : pg (Q ++ [p]) Q.length = p := by
  unfold pg
  rw [List.getD_eq_getElem?_getD, List.getElem?_append_right (Nat.le_refl _)]
  simp
end Tb
/-- One more plug at the beginning. -/
theorem Que.snoc {B h : Nat} {G : Nat → Nat} {Q : List Tb.Pc} {p : Tb.Pc} {W W' : World} (q : Que B h G Q W) {g : Nat} (hg : W.heap.size ≤ g) (hB : B ≤ g)
    (h1 : W'.rowIs h 93 3 (rowN (fiL (nxA (updN G Q.length g) 0 (Q.length + 1)) (some ⟨g, 0, none⟩) (Q.length + 1))))
    (h2 : W'.rowIs g 99 4 (rowN (plL p none)))
    (h3 : ∀ j, j < Q.length → j + 1 = Q.length → W'.rowIs (G j) 99 4 (rowN (plL (Tb.pg Q j) (some ⟨g, 0, none⟩))))
    (h4 : ∀ j, j + 1 < Q.length → W'.heap[G j]? = W.heap[G j]?) : Que B h (updN G Q.length g) (Q ++ [p]) W' := by
  have el : (Q ++ [p]).length = Q.length + 1 := by simp
  have gl : ∀ j, j < Q.length → updN G Q.length g j = G j := fun j hj => by unfold updN; rw [if_neg (by omega)]
  have gn : updN G Q.length g Q.length = g := by unfold updN; rw [if_pos rfl]
  refine ⟨⟨_, by rw [el]; exact h1, fun _ => by rw [el]; simp [gn]⟩, fun j hj => ?_, fun i j hi hj e => ?_, ⟨q.lo.1, fun j hj => ?_⟩, fun j hj => ?_⟩
  · rw [el] at hj ⊢
    by_cases e : j = Q.length
    · subst e
      rw [gn, Tb.pg_snoc]
      have : nxA (updN G Q.length g) (Q.length + 1) (Q.length + 1) = none := by unfold nxA; rw [if_neg (by omega)]
      rw [this]; exact h2
    · have hj2 : j < Q.length := by omega
      rw [gl j hj2, Tb.pg_snoc_lt hj2]
      by_cases e2 : j + 1 = Q.length
      · have : nxA (updN G Q.length g) (j + 1) (Q.length + 1) = some ⟨g, 0, none⟩ := by unfold nxA; rw [if_pos (by omega), e2, gn]
        rw [this]; exact h3 j hj2 e2
      · have hn := q.node j hj2
        have e5 : nxA (updN G Q.length g) (j + 1) (Q.length + 1) = nxA G (j + 1) Q.length := by unfold nxA; rw [if_pos (by omega), if_pos (by omega), gl _ (by omega)]
        rw [e5]
        exact hn.of_block (h4 j (by omega))
  · rw [el] at hi hj
    by_cases e1 : i = Q.length
    · by_cases e2 : j = Q.length
      · omega
      · rw [e1, gn, gl j (by omega)] at e
        have := (q.node j (by omega)).lt
        omega
    · by_cases e2 : j = Q.length
      · rw [e2, gn, gl i (by omega)] at e
        have := (q.node i (by omega)).lt
        omega
      · rw [gl i (by omega), gl j (by omega)] at e
        exact q.inj i j (by omega) (by omega) e
  · rw [el] at hj
    by_cases e : j = Q.length
    · rw [e, gn]; exact hB
    · rw [gl j (by omega)]; exact q.lo.2 j (by omega)
  · rw [el] at hj
    by_cases e : j = Q.length
    · rw [e, gn]
      obtain ⟨bg, hf, _⟩ := q.fill
      have := hf.lt
      omega
    · rw [gl j (by omega)]; exact q.ne j (by omega)
set_option maxRecDepth 100000 in
set_option maxHeartbeats 4000000 in
theorem putOn_any (B h : Nat) (G : Nat → Nat) (Q : List Tb.Pc) (p : Tb.Pc) (w : World) (q : Que B h G Q w) (hB : B ≤ w.heap.size) (hl : Q.length ≤ 1000) :
    Calls Tryd.prog 51 #[.pointer (some ⟨h, 0, none⟩), pcV p] w fun e w' => e = .returned (.tuple #[]) ∧ Que B h (updN G Q.length (w.heap.size + 1)) (Q ++ [p]) w' ∧ OnlyP (inQ h G Q.length) w w' := by
  obtain ⟨bg, hf, hbg⟩ := q.fill
  obtain ⟨⟨f0, f1, f2⟩, z0, z1, z2⟩ := rowN3 hf
  have hh : h < w.heap.size := hf.lt
  have HQ := Lib.hid q
  have HF := Lib.hid hf
  have HHH := Lib.hid hh
  by_cases h0 : Q.length = 0
  · have e1 : nxA G 0 Q.length = none := by unfold nxA; rw [if_neg (by omega)]
    rw [e1] at f0
    rw [h0] at f2
    clear q hf hbg e1
    go_enter Tryd.func51, Tryd.ntmps51
    go_wp2_with fail
    refine bodyPost_end (v := .tuple #[]) (by simp [results, Tryd.results51, go_sem]) rfl ⟨rfl, ?_, ?_⟩
    · have e : nxA (updN G Q.length (w.heap.size + 1)) 0 (Q.length + 1) = some ⟨w.heap.size + 1, 0, none⟩ := by
        unfold nxA
        rw [if_pos (by omega)]
        unfold updN
        rw [if_pos h0.symm]
      have e3 : ((Q.length + 1 : Nat) : Int) = 1 := by omega
      refine HQ.out.snoc (by omega) (by omega) ?_ ?_ (fun j hj => by omega) (fun j hj => by omega)
      · rw [e]
        unfold fiL
        rw [e3]
        exact nrow_below (nrow_below (rowN_put (rowN_put (rowN_put HF.out 0 _ (by simp)) 1 _ (by simp)) 2 _ (by simp)) (nbel_alloc _ _)) (nbel_alloc _ _)
      · exact rowN_alloc' (by simp) _ _
    · have hi : inQ h G Q.length h := Or.inl rfl
      exact (((((OnlyP.refl _ w).set (p := ⟨h, 0, none⟩) hi _).set (p := ⟨h, 1, none⟩) hi _).set (p := ⟨h, 2, none⟩) hi _).alloc _).alloc _
  · obtain ⟨k, hk⟩ : ∃ k, Q.length = k + 1 := ⟨Q.length - 1, by omega⟩
    have e1 : nxA G 0 Q.length = some ⟨G 0, 0, none⟩ := by unfold nxA; rw [if_pos (by omega)]
    have e2 := hbg (by omega)
    rw [hk, Nat.add_sub_cancel] at e2
    subst e2
    rw [e1] at f0
    have hn := q.node k (by omega)
    obtain ⟨⟨n0, n1, n2, n3⟩, y0, y1, y2, y3⟩ := rowN4 hn
    have hgl : G k < w.heap.size := hn.lt
    have hgn : G k ≠ h := q.ne k (by omega)
    have HN := Lib.hid hn
    clear q hf hbg e1 hn
    go_enter Tryd.func51, Tryd.ntmps51
    go_wp2_with fail
    refine bodyPost_end (v := .tuple #[]) (by simp [results, Tryd.results51, go_sem]) rfl ⟨rfl, ?_, ?_⟩
    · have e : nxA (updN G Q.length (w.heap.size + 1)) 0 (Q.length + 1) = nxA G 0 Q.length := by
        unfold nxA
        rw [if_pos (by omega), if_pos (by omega)]
        unfold updN
        rw [if_neg (by omega)]
      have e3 : ((Q.length + 1 : Nat) : Int) = (k : Int) + 1 + 1 := by omega
      refine HQ.out.snoc (by omega) (by omega) ?_ ?_ (fun j hj hj2 => ?_) (fun j hj => ?_)
      · rw [e]
        unfold fiL
        rw [e3]
        exact nrow_below (nrow_below (rowN_put (rowN_put (nrow_set HF.out (p := ⟨G k, 3, none⟩) (by show h ≠ G k; omega) _) 1 _ (by simp)) 2 _ (by simp)) (nbel_alloc _ _)) (nbel_alloc _ _)
      · exact rowN_alloc' (by simp) _ _
      · obtain rfl : j = k := by omega
        exact nrow_below (nrow_below (nrow_set (nrow_set (rowN_put HN.out 3 _ (by simp)) (p := ⟨h, 1, none⟩) hgn _) (p := ⟨h, 2, none⟩) hgn _) (nbel_alloc _ _)) (nbel_alloc _ _)
      · have hjl := (HQ.out.node j (by omega)).lt
        have hjh := HQ.out.ne j (by omega)
        have hjk : G j ≠ G k := fun e => by have := HQ.out.inj j k (by omega) (by omega) e; omega
        rw [Below.heap_alloc _ _ _ (by simp; omega), Below.heap_alloc _ _ _ (by simp; omega), Below.heap_setCell _ _ _ _ (by show G j ≠ h; exact hjh), Below.heap_setCell _ _ _ _ (by show G j ≠ h; exact hjh), Below.heap_setCell _ _ _ _ (by show G j ≠ G k; exact hjk)]
    · have hi : inQ h G Q.length h := Or.inl rfl
      have hi2 : inQ h G Q.length (G k) := Or.inr ⟨k, by omega, rfl⟩
      exact (((((OnlyP.refl _ w).set (p := ⟨G k, 3, none⟩) hi2 _).set (p := ⟨h, 1, none⟩) hi _).set (p := ⟨h, 2, none⟩) hi _).alloc _).alloc _
end Go.Proofs.YtjmnehlgefpheaaDoor
