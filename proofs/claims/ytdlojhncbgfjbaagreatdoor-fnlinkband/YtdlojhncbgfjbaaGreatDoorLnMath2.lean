/-
  What stations send and masters take (no program in this text).
-/
import Derived.Test.YtdlojhncbgfjbaaGreatDoorLnMem
import Derived.Test.YtdlojhncbgfjbaaGreatDoorScanMath
import Derived.Test.YtdlojhncbgfjbaaGreatDoorReadMath
namespace Go.Proofs.YtdlojhncbgfjbaaGreatDoor
namespace Ln
/-- The bytes of a note. -/
def frm (u : Int) (n : Nt) : List UInt8 := Fr.text u 3 n.1 (Lib.itoa n.2)
def texts (u : Int) (l : List Nt) : List UInt8 := l.flatMap (frm u)
theorem texts_nil (u : Int) : texts u [] = [] := rfl
theorem texts_cons (u : Int) (n : Nt) (l : List Nt) : texts u (n :: l) = frm u n ++ texts u l := rfl
theorem texts_snoc (u : Int) (l : List Nt) (n : Nt) : texts u (l ++ [n]) = texts u l ++ frm u n := by simp [texts]
open Classical in
noncomputable def S.send (s : S) : List UInt8 := if s.Right then texts s.unit s.wait else []
theorem S.send_yes {s : S} (h : s.Right) : s.send = texts s.unit s.wait := if_pos h
theorem S.send_no {s : S} (h : ¬ s.Right) : s.send = [] := if_neg h
theorem itoa_short {v : Int} (h1 : -1000000 ≤ v) (h2 : v ≤ 1000000) : (Lib.itoa v).length ≤ 8 := by
  by_cases k : v < 0
  · rw [M.itoa_neg' v k]
    have := M.dec_length v.natAbs 7 (by omega) (by omega)
    simp; omega
  · rw [M.itoa_pos v (by omega)]
    have := M.dec_length v.toNat 7 (by omega) (by omega)
    omega
/-- A note whose frame can be told. -/
def Fine (u : Int) (n : Nt) : Prop := (0 ≤ u ∧ u ≤ 250) ∧ (0 ≤ n.1 ∧ n.1 ≤ 65535) ∧ (-1000000 ≤ n.2 ∧ n.2 ≤ 1000000)
theorem Fine.right {u : Int} {n : Nt} (h : Fine u n) : Fr.rightB u 3 n.1 (Lib.itoa n.2).length = true := by
  obtain ⟨⟨a, b⟩, ⟨c, d⟩, e, f⟩ := h
  rw [Fr.rightB_iff]
  have := itoa_short e f
  omega
theorem frm_len {u : Int} {n : Nt} (h : Fine u n) : (frm u n).length ≤ 16 := by
  unfold frm
  rw [Fr.text_len]
  have := itoa_short h.2.2.1 h.2.2.2
  omega
theorem texts_len {u : Int} {l : List Nt} (h : ∀ n ∈ l, Fine u n) : (texts u l).length ≤ 16 * l.length := by
  induction l with
  | nil => simp [texts]
  | cons n l ih =>
    have h1 := frm_len (h n (by simp))
    have h2 := ih (fun m hm => h m (by simp [hm]))
    rw [texts_cons, List.length_append, List.length_cons]; omega
theorem Wt.mem {next : Int} {l : List Nt} (h : Wt next (fl l) l.length) : ∀ n ∈ l, (0 < n.1 ∧ n.1 < next) ∧ (-1000000 ≤ n.2 ∧ n.2 ≤ 1000000) := by
  intro n hn
  obtain ⟨i, hi, e⟩ := List.mem_iff_getElem.1 hn
  have h1 := h i hi
  have h0 := Wt.ah_nn (n := i) (fun j hj => h j (by omega))
  rw [fl_even, fl_odd, List.getD_eq_getElem?_getD, List.getElem?_eq_getElem hi] at h1
  simp only [Option.getD_some, e] at h1
  omega
theorem S.Right.fine {s : S} (h : s.Right) : ∀ n ∈ s.wait, Fine s.unit n := by
  intro n hn
  have h1 := Wt.mem h.2.2 n hn
  obtain ⟨⟨u1, u2⟩, _, _, _, ⟨n1, n2⟩, _⟩ := h.1
  exact ⟨⟨u1, u2⟩, ⟨by omega, by omega⟩, h1.2⟩
theorem at_mem {l : List Nt} {i : Nat} (hi : i < l.length) : (fl l (i * 2), fl l (i * 2 + 1)) ∈ l := by
  rw [fl_even, fl_odd, List.getD_eq_getElem?_getD, List.getElem?_eq_getElem hi]
  exact List.getElem_mem hi
theorem take_snoc {l : List Nt} {i : Nat} (hi : i < l.length) : l.take (i + 1) = l.take i ++ [(fl l (i * 2), fl l (i * 2 + 1))] := by
  rw [List.take_add_one, List.getElem?_eq_getElem hi, fl_even, fl_odd, List.getD_eq_getElem?_getD, List.getElem?_eq_getElem hi]
  rfl
/-- The frames of notes. -/
def out (u : Int) (n : Nt) : Fr.Out := ⟨u, 3, n.1, Lib.itoa n.2, 8 + (Lib.itoa n.2).length, 0⟩
theorem scan_texts {u : Int} {l : List Nt} (h : ∀ n ∈ l, Fine u n) : Fr.scan (texts u l) = (l.map (out u), 0, 0) := by
  induction l with
  | nil => exact Fr.scan_nil
  | cons n l ih =>
    have hrd := Fr.read_text u 3 n.1 (Lib.itoa n.2) (texts u l) (h n (by simp)).right
    have hne : Fr.text u 3 n.1 (Lib.itoa n.2) ++ texts u l ≠ [] := fun e => by
      have := congrArg List.length e
      rw [List.length_append, Fr.text_len] at this
      simp at this
    rw [texts_cons]
    show Fr.scan (Fr.text u 3 n.1 (Lib.itoa n.2) ++ texts u l) = _
    rw [Fr.scan_frame _ hne (by rw [hrd]), hrd]
    have hd : (Fr.text u 3 n.1 (Lib.itoa n.2) ++ texts u l).drop ((8 + ((Lib.itoa n.2).length : Int)).toNat) = texts u l := by
      have e : (8 + ((Lib.itoa n.2).length : Int)).toNat = (Fr.text u 3 n.1 (Lib.itoa n.2)).length := by rw [Fr.text_len]; omega
      rw [e, List.drop_left]
    simp only [hd]
    rw [ih (fun m hm => h m (by simp [hm]))]
    rfl
/-- The note that a frame carries. -/
def noteOf (u : Int) (o : Fr.Out) : Option Nt :=
  if o.u = u ∧ o.k = 3 ∧ Lib.itoa (M.sval o.b) = o.b ∧ -1000000 ≤ M.sval o.b ∧ M.sval o.b ≤ 1000000 then some (o.s, M.sval o.b) else none
theorem noteOf_out {u : Int} {n : Nt} (h : Fine u n) : noteOf u (out u n) = some n := by
  unfold noteOf out
  simp only [M.sval_itoa]
  rw [if_pos ⟨trivial, trivial, trivial, h.2.2.1, h.2.2.2⟩]
/-- A note is taken. -/
def M.put (m : M) (n : Nt) : M := if m.seq < n.1 ∧ m.notes.length < 200 then ⟨n.1, m.notes ++ [n], m.gaps + n.1 - m.seq - 1⟩ else m
def M.frame (u : Int) (m : M) (o : Fr.Out) : M := match noteOf u o with
  | some n => m.put n
  | none => m
def M.Right (m : M) : Prop := (0 ≤ m.seq ∧ m.seq ≤ 65535) ∧ m.notes.length ≤ 200 ∧ (0 ≤ m.gaps ∧ m.gaps ≤ 1000000000)
open Classical in
noncomputable def M.take (m : M) (u : Int) (t : List UInt8) : M := if m.Right ∧ t.length ≤ 20000 then (Fr.scan t).1.foldl (M.frame u) m else m
theorem M.take_yes {m : M} {u : Int} {t : List UInt8} (h : m.Right) (ht : t.length ≤ 20000) : m.take u t = (Fr.scan t).1.foldl (M.frame u) m := if_pos ⟨h, ht⟩
theorem M.take_no {m : M} {u : Int} {t : List UInt8} (h : ¬ (m.Right ∧ t.length ≤ 20000)) : m.take u t = m := if_neg h
/-- A master while frames are taken. -/
def M.Mid (m : M) : Prop := (0 ≤ m.seq ∧ m.seq ≤ 65535) ∧ m.notes.length ≤ 200 ∧ (0 ≤ m.gaps ∧ m.gaps ≤ 1000000000 + m.seq)
theorem M.Right.mid {m : M} (h : m.Right) : m.Mid := ⟨h.1, h.2.1, h.2.2.1, by have := h.1.1; have := h.2.2.2; omega⟩
theorem M.Mid.put {m : M} (h : m.Mid) {n : Nt} (hn : 0 ≤ n.1 ∧ n.1 ≤ 65535) : (m.put n).Mid := by
  unfold M.put
  by_cases c : m.seq < n.1 ∧ m.notes.length < 200
  · rw [if_pos c]
    obtain ⟨⟨a, b⟩, d, e, f⟩ := h
    refine ⟨hn, by simp; omega, ?_, ?_⟩ <;> simp only <;> omega
  · rw [if_neg c]; exact h
/-- A frame that was read. -/
def Good (o : Fr.Out) : Prop := 0 ≤ o.s ∧ o.s ≤ 65535 ∧ o.b.length ≤ 64
theorem read_good {l : List UInt8} (h : (Fr.read l).code = 0) : Good (Fr.read l) := by
  have hk := Fr.read_ok h
  unfold Fr.read at h ⊢
  split at h
  · simp [Fr.bad] at h
  · rename_i h1
    rw [if_neg h1]
    split at h
    · simp [Fr.bad] at h
    · rename_i h2
      rw [if_neg h2]
      split at h
      · simp [Fr.bad] at h
      · rename_i h3
        rw [if_neg h3]
        split at h
        · simp [Fr.bad] at h
        · rename_i h4
          rw [if_neg h4]
          split at h
          · simp [Fr.bad] at h
          · rename_i h5
            rw [if_neg h5]
            have a3 := Fr.at8_range l 3
            have a4 := Fr.at8_range l 4
            refine ⟨?_, ?_, ?_⟩
            · show 0 ≤ Fr.seq l; unfold Fr.seq; omega
            · show Fr.seq l ≤ 65535; unfold Fr.seq; omega
            · show (Fr.body l).length ≤ 64
              rw [Fr.body_len l hk.2.2.1]
              have : ¬ 64 < Fr.bodyLen l := fun e => h3 (Or.inr e)
              omega
theorem scan_good (l : List UInt8) : ∀ o ∈ (Fr.scan l).1, Good o := by
  generalize hn : l.length = n
  induction n using Nat.strongRecOn generalizing l with
  | ind n ih =>
    by_cases e : l = []
    · subst e; intro o ho; rw [Fr.scan_nil] at ho; cases ho
    · by_cases h6 : (Fr.read l).code = 6
      · rw [Fr.scan_short l e h6]; intro o ho; cases ho
      · have hl : 0 < l.length := List.length_pos_iff.2 e
        by_cases h0 : (Fr.read l).code = 0
        · rw [Fr.scan_frame l e h0]
          have hu := Fr.read_used h0
          intro o ho
          rcases List.mem_cons.1 ho with rfl | ho
          · exact read_good h0
          · exact ih _ (by rw [← hn, List.length_drop]; omega) _ rfl o ho
        · rw [Fr.scan_lost l e h6 h0]
          intro o ho
          exact ih _ (by rw [← hn, List.length_drop]; omega) _ rfl o ho
theorem M.Mid.frame {m : M} (h : m.Mid) {u : Int} {o : Fr.Out} (ho : Good o) : (M.frame u m o).Mid := by
  unfold M.frame noteOf
  split
  · rename_i n hn
    split at hn
    · cases hn; exact h.put ⟨ho.1, ho.2.1⟩
    · cases hn
  · exact h
theorem put_len (m : M) (n : Nt) : (m.put n).notes.length ≤ max m.notes.length 200 := by
  unfold M.put
  by_cases c : m.seq < n.1 ∧ m.notes.length < 200
  · rw [if_pos c]; simp; omega
  · rw [if_neg c]; omega
theorem fold_len (u : Int) (os : List Fr.Out) (m : M) (h : m.notes.length ≤ 200) : (os.foldl (M.frame u) m).notes.length ≤ 200 := by
  induction os generalizing m with
  | nil => exact h
  | cons o os ih =>
    refine ih _ ?_
    unfold M.frame
    split
    · rename_i n _; have := put_len m n; omega
    · exact h
theorem take_len (m : M) (u : Int) (t : List UInt8) (h : m.notes.length ≤ 1048576) : (m.take u t).notes.length ≤ 1048576 := by
  by_cases c : m.Right ∧ t.length ≤ 20000
  · rw [M.take_yes c.1 c.2]; have := fold_len u (Fr.scan t).1 m c.1.2.1; omega
  · rw [M.take_no c]; exact h
end Ln
end Go.Proofs.YtdlojhncbgfjbaaGreatDoor
