/-
  A plant in memory: its own block, and the two lists that it owns.
-/
import Derived.Test.YtcjeieagpcphjaaDoorWkMy
import Derived.Test.YtcjeieagpcphjaaDoorWkFl2
import Derived.Test.YtcjeieagpcphjaaDoorWkPm
import Derived.Maps.AppendAt
import Derived.Lib.OwnKind
namespace Go.Proofs.YtcjeieagpcphjaaDoor
open Go.RowKit Go.Deep

/-- The cells of the first batches of a list. -/
def beL (cs : Nat → Be) : Nat → List Value
  | 0 => []
  | i + 1 => beL cs i ++ [.int .i64 (cs i).wt, .slice (cs i).pa (cs i).n (cs i).k]
theorem beL_len (cs : Nat → Be) (n : Nat) : (beL cs n).length = n * 2 := by
  induction n with
  | zero => rfl
  | succ n ih => simp only [beL, List.length_append, ih]; simp; omega
theorem beL_at (cs : Nat → Be) {n i : Nat} (h : i < n) : (beL cs n)[i * 2]? = some (.int .i64 (cs i).wt) ∧ (beL cs n)[i * 2 + 1]? = some (.slice (cs i).pa (cs i).n (cs i).k) := by
  induction n with
  | zero => omega
  | succ n ih =>
    simp only [beL]
    by_cases e : i = n
    · subst e
      rw [List.getElem?_append_right (by rw [beL_len]; omega), List.getElem?_append_right (by rw [beL_len]; omega), beL_len]
      simp
    · have := ih (by omega)
      rw [List.getElem?_append_left (by rw [beL_len]; omega), List.getElem?_append_left (by rw [beL_len]; omega)]
      exact this
theorem beL_congr {cs ds : Nat → Be} {n : Nat} (h : ∀ i, i < n → cs i = ds i) : beL cs n = beL ds n := by
  induction n with
  | zero => rfl
  | succ n ih => simp only [beL]; rw [ih (fun i hi => h i (by omega)), h n (by omega)]
/-- A list of batches that is owned. -/
def PlL (B : Nat) (v : Value) (n : Nat) (C : Nat → Wk.Bt) (W : World) : Prop :=
  ∃ cs : Nat → Be, W.ownsRow B 28 2 v n (beL cs n) ∧ ∀ i, i < n → (cs i).b = C i ∧ ∃ g, (cs i).pa = some ⟨g, 0, none⟩ ∧ InBlk g (cs i).n (cs i).f W
theorem inBlk_type {g n : Nat} {f : Nat → Int} {W : World} (h : InBlk g n f W) : ∃ cur, W.heap[g]? = some (.cells cur 2 (0, 0)) := by
  obtain ⟨m, F, _, ⟨cur, h1, _⟩, _⟩ := h
  exact ⟨cur, h1⟩
theorem rowIs_type {g n : Nat} {t : TypeId} {F : Nat → Value} {W : World} (h : W.rowIs g t n F) : ∃ cur, W.heap[g]? = some (.cells cur t (0, 0)) := by
  obtain ⟨cur, h1, _⟩ := h
  exact ⟨cur, h1⟩
theorem own_type {B n s : Nat} {t : TypeId} {v : Value} {xs : List Value} {W : World} (h : W.ownsRow B t s v n xs) {g : Nat} (hg : v.ownBlock = some g) : B ≤ g ∧ ∃ cur, W.heap[g]? = some (.cells cur t (0, 0)) := own_block h hg
theorem blk_ne {g k : Nat} {t t' : TypeId} {W : World} (h1 : ∃ cur, W.heap[g]? = some (.cells cur t (0, 0))) (h2 : ∃ cur, W.heap[k]? = some (.cells cur t' (0, 0))) (hne : t ≠ t') : g ≠ k := by
  rintro rfl
  obtain ⟨c1, h1⟩ := h1
  obtain ⟨c2, h2⟩ := h2
  rw [h1] at h2
  injection h2 with h2
  injection h2 with _ h2
  exact hne h2
theorem PlL.nil (B : Nat) (C : Nat → Wk.Bt) (W : World) : PlL B (.slice none 0 0) 0 C W := ⟨fun _ => ⟨0, none, 0, 0, fun _ => 0⟩, World.ownsRow_nil _ _ _ _, fun _ hi => absurd hi (Nat.not_lt_zero _)⟩
/-- Kept where its blocks and those of its parts are. -/
theorem PlL.kept {B : Nat} {v : Value} {n : Nat} {C : Nat → Wk.Bt} {W W' : World} (h : PlL B v n C W) (hb : ∀ g, g < W.heap.size → v.ownBlock = some g → W'.heap[g]? = W.heap[g]?) (hi : ∀ (g : Nat) (cur : Array Value), W.heap[g]? = some (Obj.cells cur 2 (0, 0)) → W'.heap[g]? = W.heap[g]?) : PlL B v n C W' := by
  obtain ⟨cs, ho, hc⟩ := h
  refine ⟨cs, ?_, fun i h2 => ⟨(hc i h2).1, ?_⟩⟩
  · refine ⟨ho.1, ?_⟩
    rcases ho.2 with h | ⟨g, cap, cur, e, h1, h2, h3⟩
    · exact Or.inl h
    · have hl : g < W.heap.size := (ho.lt g (by rw [e]; rfl)).2
      exact Or.inr ⟨g, cap, cur, e, h1, (hb g hl (by rw [e]; rfl)).trans h2, h3⟩
  · obtain ⟨g, e, h3⟩ := (hc i h2).2
    obtain ⟨cur, h4⟩ := inBlk_type h3
    exact ⟨g, e, h3.block (hi g cur h4)⟩
theorem PlL.below {B : Nat} {v : Value} {n : Nat} {C : Nat → Wk.Bt} {W W' : World} (h : PlL B v n C W) (hb : Below W.heap.size W W') : PlL B v n C W' := h.kept (fun g hl _ => hb.block g hl) (fun g cur e => hb.block g (by rcases Nat.lt_or_ge g W.heap.size with h | h; exact h; rw [Array.getElem?_eq_none h] at e; cases e))
theorem PlL.lt {B : Nat} {v : Value} {n : Nat} {C : Nat → Wk.Bt} {W : World} (h : PlL B v n C W) {g : Nat} (hg : v.ownBlock = some g) : B ≤ g ∧ g < W.heap.size := by obtain ⟨cs, ho, _⟩ := h; exact ho.lt g hg
theorem PlL.type {B : Nat} {v : Value} {n : Nat} {C : Nat → Wk.Bt} {W : World} (h : PlL B v n C W) {g : Nat} (hg : v.ownBlock = some g) : ∃ cur, W.heap[g]? = some (.cells cur 28 (0, 0)) := by obtain ⟨cs, ho, _⟩ := h; exact (own_type ho hg).2
theorem PlL.shape {B : Nat} {v : Value} {n : Nat} {C : Nat → Wk.Bt} {W : World} (h : PlL B v n C W) : ∃ a k, v = .slice a n k := by
  obtain ⟨cs, ho, _⟩ := h
  rcases ho.2 with ⟨h, e⟩ | ⟨g, cap, cur, e, _⟩
  · exact ⟨none, 0, by rw [h, e]⟩
  · exact ⟨_, cap, e⟩
/-- The batches of such a list, for a mixture. -/
theorem PlL.bts {B : Nat} {a : Option Addr} {k n : Nat} {C : Nat → Wk.Bt} {W : World} (h : PlL B (.slice a n k) n C W) : ∃ bs : Nat → Be, BtsAt a n bs W ∧ (fun i => (bs i).b) = C := by
  obtain ⟨cs, ho, hc⟩ := h
  refine ⟨fun i => if i < n then cs i else ⟨(C i).wt, none, (C i).n, 0, (C i).f⟩, ?_, ?_⟩
  · rcases ho.2 with ⟨_, e⟩ | ⟨g, cap, cur, e, h1, h2, h3⟩
    · exact Or.inl e
    · refine Or.inr ⟨g, by injection e, fun i hi => ?_⟩
      have e2 : a = some ⟨g, 0, none⟩ := by injection e
      subst e2
      have e3 : cap = k := by injection e with _ _ e; exact e.symm
      have q := fun j hj => ho.cellAt (g := g) (cap := k) j hj
      obtain ⟨l1, l2⟩ := beL_at cs hi
      simp only [if_pos hi]
      obtain ⟨g', e4, h4⟩ := (hc i hi).2
      refine ⟨⟨(q (i * 2) (by omega)).trans l1, (q (i * 2 + 1) (by omega)).trans l2⟩, ?_⟩
      rw [e4]
      exact h4.at_
  · funext i
    by_cases hi : i < n
    · simp only [if_pos hi]; exact (hc i hi).1
    · simp only [if_neg hi]; rfl
/-- One more batch. -/
theorem PlL.push {B : Nat} {v v' : Value} {n : Nat} {C : Nat → Wk.Bt} {W W' : World} {cs : Nat → Be} {x : Be} (hc : ∀ i, i < n → (cs i).b = C i ∧ ∃ g, (cs i).pa = some ⟨g, 0, none⟩ ∧ InBlk g (cs i).n (cs i).f W) (hx : x.b = C n) (hp : ∃ g, x.pa = some ⟨g, 0, none⟩ ∧ InBlk g x.n x.f W)
    (ho : W.ownsRow B 28 2 v n (beL cs n)) (hg : W.grownBy W' v.ownBlock) (ho' : W'.ownsRow B 28 2 v' (n + 1) (beL cs n ++ [.int .i64 x.wt, .slice x.pa x.n x.k])) : PlL B v' (n + 1) C W' := by
  have keep : ∀ g m (f : Nat → Int), InBlk g m f W → InBlk g m f W' := fun g m f h => h.block (hg.block g h.lt (fun e => blk_ne (inBlk_type h) (own_type ho e.symm).2 (by decide) rfl))
  refine ⟨fun i => if i < n then cs i else x, ?_, fun i hi => ?_⟩
  · have e : beL (fun i => if i < n then cs i else x) (n + 1) = beL cs n ++ [.int .i64 x.wt, .slice x.pa x.n x.k] := by
      simp only [beL]
      rw [beL_congr (ds := cs) (fun i hi => by simp [hi])]
      simp
    rw [e]; exact ho'
  · by_cases h2 : i < n
    · simp only [if_pos h2]
      obtain ⟨g, e, h3⟩ := (hc i h2).2
      exact ⟨(hc i h2).1, g, e, keep _ _ _ h3⟩
    · obtain rfl : i = n := by omega
      simp only [if_neg h2]
      obtain ⟨g, e, h3⟩ := hp
      exact ⟨hx, g, e, keep _ _ _ h3⟩

/-- A plant: its block, its lists. -/
abbrev plL (mv : Value) (fl : Wk.Fl) (cv wv : Value) (k : Int) : List Value := [mv, .int .i64 fl.held, .int .i64 fl.most, .int .i64 fl.catch_, .int .i64 fl.wash, cv, wv, .int .i64 k]
structure PlS (B pb : Nat) (mv : Value) (fl : Wk.Fl) (cv : Value) (cn : Nat) (C : Nat → Wk.Bt) (wv : Value) (wn : Nat) (D : Nat → Wk.Bt) (k : Int) (W : World) : Prop where
  row : W.rowIs pb 66 8 (rowL (plL mv fl cv wv k))
  cl : PlL B cv cn C W
  wl : PlL B wv wn D W
  ne : ∀ g, cv.ownBlock = some g → wv.ownBlock ≠ some g
  low : pb < B
  sz : B ≤ W.heap.size
/-- What else lay there stays. -/
structure Fr (pb : Nat) (cv wv : Value) (w W : World) : Prop where
  os : W.os = w.os
  tape : W.tape = w.tape
  output : W.output = w.output
  size : w.heap.size ≤ W.heap.size
  block : ∀ k, k < w.heap.size → k ≠ pb → cv.ownBlock ≠ some k → wv.ownBlock ≠ some k → W.heap[k]? = w.heap[k]?
/-- A list's block: the old one, or a new one. -/
def Gw (v v' : Value) (s : Nat) : Prop := v'.ownBlock = v.ownBlock ∨ ∃ g, s ≤ g ∧ v'.ownBlock = some g
theorem Gw.refl (v : Value) (s : Nat) : Gw v v s := Or.inl rfl
theorem Gw.ne {v v' : Value} {s g : Nat} (h : Gw v v' s) (hg : g < s) (h2 : v.ownBlock ≠ some g) : v'.ownBlock ≠ some g := by
  rcases h with h | ⟨k, h1, h3⟩
  · rw [h]; exact h2
  · rw [h3]; intro e; injection e with e; omega
theorem Gw.trans {v v' v'' : Value} {s s' : Nat} (h : Gw v v' s) (h' : Gw v' v'' s') (hs : s ≤ s') : Gw v v'' s := by
  rcases h' with h' | ⟨k, h1, h3⟩
  · rcases h with h | ⟨k, h1, h3⟩
    · exact Or.inl (h'.trans h)
    · exact Or.inr ⟨k, h1, h'.trans h3⟩
  · exact Or.inr ⟨k, by omega, h3⟩
theorem Fr.of_below {pb : Nat} {cv wv : Value} {w W : World} (h : Below w.heap.size w W) : Fr pb cv wv w W := ⟨h.os, h.tape, h.output, h.size, fun k hk _ _ _ => h.block k hk⟩
theorem Fr.trans {pb : Nat} {cv wv cv' wv' : Value} {w W W' : World} (h : Fr pb cv wv w W) (h' : Fr pb cv' wv' W W') (hc : Gw cv cv' w.heap.size) (hw : Gw wv wv' w.heap.size) : Fr pb cv wv w W' :=
  ⟨h'.os.trans h.os, h'.tape.trans h.tape, h'.output.trans h.output, Nat.le_trans h.size h'.size, fun k hk h1 h2 h3 => (h'.block k (Nat.lt_of_lt_of_le hk h.size) h1 (hc.ne hk h2) (hw.ne hk h3)).trans (h.block k hk h1 h2 h3)⟩
/-- Whatever is below the plant. -/
theorem Fr.low {pb B : Nat} {cv wv : Value} {w W : World} (h : Fr pb cv wv w W) (hc : ∀ g, cv.ownBlock = some g → B ≤ g) (hw : ∀ g, wv.ownBlock = some g → B ≤ g) (hp : pb < B) (hB : B ≤ w.heap.size) : Below pb w W :=
  ⟨h.os, h.tape, h.output, h.size, fun k hk => h.block k (by omega) (by omega) (fun e => by have := hc k e; omega) (fun e => by have := hw k e; omega)⟩
section
variable {B pb : Nat} {mv : Value} {fl : Wk.Fl} {cv : Value} {cn : Nat} {C : Nat → Wk.Bt} {wv : Value} {wn : Nat} {D : Nat → Wk.Bt} {k : Int} {W W' : World}
theorem PlS.below (h : PlS B pb mv fl cv cn C wv wn D k W) (hb : Below W.heap.size W W') : PlS B pb mv fl cv cn C wv wn D k W' := ⟨wrow_below h.row hb, h.cl.below hb, h.wl.below hb, h.ne, h.low, Nat.le_trans h.sz hb.size⟩
/-- A store into the plant's block, beside its lists. -/
theorem PlS.set (h : PlS B pb mv fl cv cn C wv wn D k W) {i : Nat} {x : Value} {mv' : Value} {fl' : Wk.Fl} {cv' wv' : Value} {k' : Int} (hr : (W.setCell ⟨pb, i, none⟩ x).rowIs pb 66 8 (rowL (plL mv' fl' cv' wv' k'))) (hc : PlL B cv' cn C W) (hw : PlL B wv' wn D W) (hne : ∀ g, cv'.ownBlock = some g → wv'.ownBlock ≠ some g) : PlS B pb mv' fl' cv' cn C wv' wn D k' (W.setCell ⟨pb, i, none⟩ x) := by
  have hp := rowIs_type h.row
  have e : ∀ g, g ≠ pb → (W.setCell ⟨pb, i, none⟩ x).heap[g]? = W.heap[g]? := fun g hg => Below.heap_setCell _ ⟨pb, i, none⟩ _ _ hg
  have kp : ∀ {v n F}, PlL B v n F W → PlL B v n F (W.setCell ⟨pb, i, none⟩ x) := fun {v n F} hl => hl.kept (fun g hg e1 => e g (blk_ne (hl.type e1) hp (by decide))) (fun g cur e1 => e g (blk_ne ⟨cur, e1⟩ hp (by decide)))
  exact ⟨hr, kp hc, kp hw, hne, h.low, by simpa using h.sz⟩
end
theorem pl_row_set {w : World} {g : Nat} {t : TypeId} {n : Nat} {l : List Value} (h : w.rowIs g t n (rowL l)) (i : Nat) (x : Value) (hi : i < l.length) : (w.setCell ⟨g, i, none⟩ x).rowIs g t n (rowL (l.set i x)) :=
  (h.set i x).congr (fun j _ => by
    unfold rowL
    by_cases e : j = i
    · subst e; simp [hi]
    · rw [if_neg e]
      have e2 : i ≠ j := fun h => e h.symm
      simp [e2])
section
variable {B pb : Nat} {mv : Value} {fl : Wk.Fl} {cv : Value} {cn : Nat} {C : Nat → Wk.Bt} {wv : Value} {wn : Nat} {D : Nat → Wk.Bt} {k : Int} {W W' : World}
theorem PlS.put {F : Nat → Value} (h : W.rowIs pb 66 8 F) {i : Nat} {x : Value} (hr : (W.setCell ⟨pb, i, none⟩ x).rowIs pb 66 8 (rowL (plL mv fl cv wv k))) (hc : PlL B cv cn C W) (hw : PlL B wv wn D W) (hne : ∀ g, cv.ownBlock = some g → wv.ownBlock ≠ some g) (hl : pb < B) (hs : B ≤ W.heap.size) : PlS B pb mv fl cv cn C wv wn D k (W.setCell ⟨pb, i, none⟩ x) := by
  have hp := rowIs_type h
  have e : ∀ g, g ≠ pb → (W.setCell ⟨pb, i, none⟩ x).heap[g]? = W.heap[g]? := fun g hg => Below.heap_setCell _ ⟨pb, i, none⟩ _ _ hg
  have kp : ∀ {v n F}, PlL B v n F W → PlL B v n F (W.setCell ⟨pb, i, none⟩ x) := fun {v n F} hl => hl.kept (fun g hg e1 => e g (blk_ne (hl.type e1) hp (by decide))) (fun g cur e1 => e g (blk_ne ⟨cur, e1⟩ hp (by decide)))
  exact ⟨hr, kp hc, kp hw, hne, hl, by simpa using hs⟩
theorem Fr.set {pb : Nat} {cv wv : Value} {w W : World} (h : Fr pb cv wv w W) (i : Nat) (x : Value) : Fr pb cv wv w (W.setCell ⟨pb, i, none⟩ x) :=
  ⟨h.os, h.tape, h.output, by simpa using h.size, fun q hq h1 h2 h3 => (Below.heap_setCell _ ⟨pb, i, none⟩ _ _ h1).trans (h.block q hq h1 h2 h3)⟩
theorem lt_of_some {g : Nat} {W : World} {o : Obj} (h : W.heap[g]? = some o) : g < W.heap.size := by
  rcases Nat.lt_or_ge g W.heap.size with h2 | h2
  · exact h2
  · rw [Array.getElem?_eq_none h2] at h; cases h
theorem PlS.appC (h : PlS B pb mv fl cv cn C wv wn D k W) {v' : Value} (hg : W.grownBy W' cv.ownBlock) (hw : v'.ownBlock = cv.ownBlock ∨ v'.ownBlock = some W.heap.size) (hl : PlL B v' (cn + 1) C W') :
    W'.rowIs pb 66 8 (rowL (plL mv fl cv wv k)) ∧ PlS B pb mv fl v' (cn + 1) C wv wn D k (W'.setCell ⟨pb, 5, none⟩ v') ∧ Fr pb cv wv W (W'.setCell ⟨pb, 5, none⟩ v') ∧ Gw cv v' W.heap.size := by
  have hr : W'.rowIs pb 66 8 (rowL (plL mv fl cv wv k)) := h.row.of_block (hg.block _ h.row.lt (fun e => blk_ne (rowIs_type h.row) (h.cl.type e.symm) (by decide) rfl))
  have hgw : Gw cv v' W.heap.size := by
    rcases hw with h | h
    · exact Or.inl h
    · exact Or.inr ⟨_, Nat.le_refl _, h⟩
  refine ⟨hr, PlS.put hr ?_ hl ?_ ?_ h.low (Nat.le_trans h.sz hg.size), ?_, hgw⟩
  · exact pl_row_set hr 5 v' (by simp)
  · exact h.wl.kept (fun g hl e => hg.block g hl (fun e2 => h.ne g e2.symm e)) (fun g cur e => hg.block g (lt_of_some e) (fun e2 => blk_ne ⟨cur, e⟩ (h.cl.type e2.symm) (by decide) rfl))
  · intro g e e2
    exact hgw.ne (h.wl.lt e2).2 (fun e3 => h.ne g e3 e2) e
  · exact Fr.set ⟨hg.os, hg.tape, hg.output, hg.size, fun q hq h1 h2 _ => hg.block q hq (fun e => h2 e.symm)⟩ 5 v'
theorem PlS.appW (h : PlS B pb mv fl cv cn C wv wn D k W) {v' : Value} (hg : W.grownBy W' wv.ownBlock) (hw : v'.ownBlock = wv.ownBlock ∨ v'.ownBlock = some W.heap.size) (hl : PlL B v' (wn + 1) D W') :
    W'.rowIs pb 66 8 (rowL (plL mv fl cv wv k)) ∧ PlS B pb mv fl cv cn C v' (wn + 1) D k (W'.setCell ⟨pb, 6, none⟩ v') ∧ Fr pb cv wv W (W'.setCell ⟨pb, 6, none⟩ v') ∧ Gw wv v' W.heap.size := by
  have hr : W'.rowIs pb 66 8 (rowL (plL mv fl cv wv k)) := h.row.of_block (hg.block _ h.row.lt (fun e => blk_ne (rowIs_type h.row) (h.wl.type e.symm) (by decide) rfl))
  have hgw : Gw wv v' W.heap.size := by
    rcases hw with h | h
    · exact Or.inl h
    · exact Or.inr ⟨_, Nat.le_refl _, h⟩
  refine ⟨hr, PlS.put hr ?_ ?_ hl ?_ h.low (Nat.le_trans h.sz hg.size), ?_, hgw⟩
  · exact pl_row_set hr 6 v' (by simp)
  · exact h.cl.kept (fun g hl e => hg.block g hl (fun e2 => h.ne g e e2.symm)) (fun g cur e => hg.block g (lt_of_some e) (fun e2 => blk_ne ⟨cur, e⟩ (h.wl.type e2.symm) (by decide) rfl))
  · intro g e e2
    exact hgw.ne (h.cl.lt e).2 (h.ne g e) e2
  · exact Fr.set ⟨hg.os, hg.tape, hg.output, hg.size, fun q hq h1 _ h2 => hg.block q hq (fun e => h2 e.symm)⟩ 6 v'
end
section
variable {B pb : Nat} {mv : Value} {fl : Wk.Fl} {cv : Value} {cn : Nat} {C : Nat → Wk.Bt} {wv : Value} {wn : Nat} {D : Nat → Wk.Bt} {k : Int} {W W' : World}
/-- Another block changes. -/
theorem PlS.keep (h : PlS B pb mv fl cv cn C wv wn D k W) {r : Nat} {t : TypeId} (ht : ∃ cur, W.heap[r]? = some (.cells cur t (0, 0))) (h1 : t ≠ 66) (h2 : t ≠ 2) (hc : cv.ownBlock ≠ some r) (hw : wv.ownBlock ≠ some r) (hb : ∀ g, g ≠ r → g < W.heap.size → W'.heap[g]? = W.heap[g]?) (hs : W.heap.size ≤ W'.heap.size) : PlS B pb mv fl cv cn C wv wn D k W' := by
  have kp : ∀ {v n F}, v.ownBlock ≠ some r → PlL B v n F W → PlL B v n F W' := fun {v n F} hv hl => hl.kept (fun g hg e1 => hb g (fun e => hv (e ▸ e1)) hg) (fun g cur e1 => hb g (blk_ne ⟨cur, e1⟩ ht (fun e => h2 e.symm)) (lt_of_some e1))
  exact ⟨h.row.of_block (hb _ (blk_ne (rowIs_type h.row) ht (fun e => h1 e.symm)) h.row.lt), kp hc h.cl, kp hw h.wl, h.ne, h.low, Nat.le_trans h.sz hs⟩
theorem Fr.above {w : World} (h : Fr pb cv wv w W) {r : Nat} (hr : w.heap.size ≤ r) (i : Nat) (x : Value) : Fr pb cv wv w (W.setCell ⟨r, i, none⟩ x) :=
  ⟨h.os, h.tape, h.output, by simpa using h.size, fun q hq h1 h2 h3 => (Below.heap_setCell _ ⟨r, i, none⟩ _ _ (by show q ≠ r; omega)).trans (h.block q hq h1 h2 h3)⟩
theorem Fr.drew {w : World} (h : Fr pb cv wv w W) : Fr pb cv wv w W.drew := ⟨h.os, h.tape, h.output, h.size, h.block⟩
/-- Two stores into a block of a batch of the call's own. -/
theorem PlS.put2 (h : PlS B pb mv fl cv cn C wv wn D k W) {r : Nat} {F : Nat → Value} (hr : W.rowIs r 28 2 F) (hc : cv.ownBlock ≠ some r) (hw : wv.ownBlock ≠ some r) (x y : Value) : PlS B pb mv fl cv cn C wv wn D k ((W.setCell ⟨r, 0, none⟩ x).setCell ⟨r, 1, none⟩ y) :=
  h.keep (rowIs_type hr) (by decide) (by decide) hc hw (fun g hg _ => (Below.heap_setCell _ ⟨r, 1, none⟩ _ _ hg).trans (Below.heap_setCell _ ⟨r, 0, none⟩ _ _ hg)) (by simp)
end
/-- An append inside a region: where the new list lies. -/
theorem ap_at {P : Program} {ops : Array Oper} {o : Oper} {a : Act} {w : World} {K : Act → World → Prop} {Q : Exit → Act → World → Prop} {E : Prop}
    (hg : o.guard = none) (s x : Operand) (t : TypeId) (hop : o.op = Op.call { callee := Callee.builtin Builtin.append, args := #[s, x], argTypes := #[t, t] }) (B : Nat)
    (e : TypeId) (i : TypeInfo) (z : Value) (size bytes : Nat) (h1 : P.underlying t = some (.slice e)) (h2 : P.info? e = some i) (h3 : i.zero = some z) (h4 : i.size = size) (h5 : i.bytes = bytes) (h6 : z.cells.size = size) (h7 : 0 < size)
    (v : Value) (n : Nat) (olds : List Value) (hs : a.eval s = v) (hown : w.ownsRow B e size v n olds)
    (ad : Addr) (m c : Nat) (news : List Value) (hx : a.eval x = .slice (some ad) m c) (hn : news.length = m * size) (hc : ∀ j u, news[j]? = some u → w.cell? (ad.add j) = some u) (h1c : ∀ u ∈ news, u.oneCell' = true)
    (b1 : n + m ≤ maxLen) (b2 : (n + m) * bytes ≤ 140737488355328) (hB : B ≤ w.heap.size)
    (hK : ∀ v' w', w'.ownsRow B e size v' (n + m) (olds ++ news) → w.grownBy w' v.ownBlock → (v'.ownBlock = v.ownBlock ∨ v'.ownBlock = some w.heap.size) → K (a.put o.dst v') w') :
    if Region.wanted o (yielded ops a.tmps) = true then Oper.wp P o a w K Q else E := by
  have hw : Region.wanted o (yielded ops a.tmps) = true := by simp [Region.wanted, hg]
  rw [if_pos hw]
  obtain ⟨v', w', hrun, r1, r2, _, r3⟩ := run_append_own_at (P := P) w B t o.type e i z size bytes h1 h2 h3 h4 h5 h6 h7 v n olds hown ad m c news hn hc h1c b1 b2 hB
  unfold Oper.wp
  simp [execOp, hop, resolve, invoke, builtin, hs, hx, hrun, Result.andThen]
  exact hK v' w' r1 r2 r3
end Go.Proofs.YtcjeieagpcphjaaDoor
