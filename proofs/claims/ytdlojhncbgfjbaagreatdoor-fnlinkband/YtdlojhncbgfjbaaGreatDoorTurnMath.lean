/-
  A frame of which one byte is another one, or that is cut off: no program in this text.
-/
import Derived.Test.YtdlojhncbgfjbaaGreatDoorFrMath
namespace Go.Proofs.YtdlojhncbgfjbaaGreatDoor
namespace Fr
theorem at8_at (l : List UInt8) (i : Nat) (h : i < l.length) : at8 l i = ((l[i]'h).toNat : Int) := by
  unfold at8; rw [List.getD_eq_getElem?_getD, List.getElem?_eq_getElem h]; rfl
/-- A text that is read well begins with a frame's bytes. -/
theorem read_ok {l : List UInt8} (h : (read l).code = 0) : l ≠ [] ∧ at8 l 0 = 126 ∧ 8 + bodyLen l ≤ l.length ∧ text (at8 l 1) (at8 l 2) (seq l) (body l) = l.take (8 + bodyLen l) := by
  unfold read at h
  split at h
  · simp [bad] at h
  · rename_i h1
    split at h
    · simp [bad] at h
    · split at h
      · simp [bad] at h
      · split at h
        · simp [bad] at h
        · rename_i h4
          split at h
          · simp [bad] at h
          · rename_i h5
            have h0 : at8 l 0 = 126 := by
              rcases Classical.em (at8 l 0 = 126) with e | e
              · exact e
              · exact absurd (Or.inr e) h1
            have hlen : 8 + bodyLen l ≤ l.length := by omega
            refine ⟨fun e => h1 (Or.inl e), h0, hlen, (text_read l hlen h0).2 ?_⟩
            rcases Classical.em (Crc.sum ((l.drop 1).take (5 + bodyLen l)) = (l.getD (6 + bodyLen l) 0).toNat * 256 + (l.getD (7 + bodyLen l) 0).toNat) with e | e
            · exact e
            · exact absurd e h5
/-- The parts of a frame's bytes. -/
theorem text_at (u k s : Int) (b : List UInt8) (hb : b.length ≤ 64) : bodyLen (text u k s b) = b.length ∧ (text u k s b).drop 1 = head u k s b ++ [by8 ((Crc.sum (head u k s b) : Int) / 256), by8 ((Crc.sum (head u k s b) : Int) % 256)] := by
  constructor
  · unfold bodyLen text head
    have := by8_toNat (b.length : Int) (by omega) (by omega)
    simp
    omega
  · rfl
/-- One byte of a list turned. -/
def turn (l : List UInt8) (i : Nat) (c : UInt8) : List UInt8 := l.set i c
/-- A frame of which one byte but its length is another one is not read. -/
theorem turned (u k s : Int) (b : List UInt8) (hb : b.length ≤ 64) (i : Nat) (hi : i < (text u k s b).length) (h5 : i ≠ 5) (c : UInt8) (hc : c ≠ (text u k s b)[i]'hi) : (read ((text u k s b).set i c)).code ≠ 0 := by
  intro hok
  obtain ⟨hne, h0, hlen, htx⟩ := read_ok hok
  have hl : ((text u k s b).set i c).length = 8 + b.length := by rw [List.length_set, text_len]
  have hbl : bodyLen ((text u k s b).set i c) = b.length := by
    rw [← (text_at u k s b hb).1]
    unfold bodyLen
    rw [List.getD_eq_getElem?_getD, List.getD_eq_getElem?_getD, List.getElem?_set_ne h5]
  rw [text_len] at hi
  -- the first byte
  rcases Nat.eq_zero_or_pos i with e0 | hpos
  · subst e0
    rw [at8_at _ 0 (by rw [hl]; omega)] at h0
    simp at h0
    apply hc
    apply UInt8.toNat_inj.1
    have : ((text u k s b)[0]'(by rw [text_len]; omega)) = 126 := rfl
    rw [this]
    have e : (126 : UInt8).toNat = 126 := by decide
    omega
  · -- the sum of what stands there, against the two last bytes
    have hcr := (text_read _ hlen h0).1 htx
    rw [hbl] at hcr
    have hm := Crc.sum_lt (head u k s b)
    have ha := by8_toNat ((Crc.sum (head u k s b) : Int) / 256) (by omega) (by omega)
    have hbb := by8_toNat ((Crc.sum (head u k s b) : Int) % 256) (by omega) (by omega)
    have hH := head_len u k s b
    obtain ⟨j, rfl⟩ : ∃ j, i = j + 1 := ⟨i - 1, by omega⟩
    have hjl : j < (head u k s b ++ [by8 ((Crc.sum (head u k s b) : Int) / 256), by8 ((Crc.sum (head u k s b) : Int) % 256)]).length := by rw [List.length_append, hH]; simp; omega
    have hc2 : c ≠ ((head u k s b ++ [by8 ((Crc.sum (head u k s b) : Int) / 256), by8 ((Crc.sum (head u k s b) : Int) % 256)])[j]'hjl) := hc
    have hl' : (text u k s b).set (j + 1) c = 126 :: ((head u k s b ++ [by8 ((Crc.sum (head u k s b) : Int) / 256), by8 ((Crc.sum (head u k s b) : Int) % 256)]).set j c) := rfl
    rw [hl'] at hcr
    clear hok hne h0 hlen htx hl hbl hl' hc
    generalize head u k s b = H at *
    generalize by8 ((Crc.sum H : Int) / 256) = x at *
    generalize by8 ((Crc.sum H : Int) % 256) = y at *
    rw [show 6 + b.length = (5 + b.length) + 1 by omega, show 7 + b.length = (5 + b.length + 1) + 1 by omega, List.getD_cons_succ, List.getD_cons_succ, List.drop_one, List.tail_cons, ← hH] at hcr
    by_cases hj : j < H.length
    · rw [List.set_append_left _ _ hj] at hcr
      rw [List.getElem_append_left hj] at hc2
      have e1 : (H.set j c ++ [x, y]).take H.length = H.set j c := by
        rw [List.take_append_of_le_length (by simp), List.take_of_length_le (by simp)]
      have e2 : (H.set j c ++ [x, y]).getD H.length 0 = x := by
        rw [List.getD_eq_getElem?_getD, List.getElem?_append_right (by simp)]; simp
      have e3 : (H.set j c ++ [x, y]).getD (H.length + 1) 0 = y := by
        rw [List.getD_eq_getElem?_getD, List.getElem?_append_right (by simp)]; simp
      rw [e1, e2, e3] at hcr
      have es : Crc.sum (H.set j c) = Crc.sum H := by omega
      have d1 : H = H.take j ++ H[j] :: H.drop (j + 1) := by
        rw [← List.drop_eq_getElem_cons hj, List.take_append_drop]
      have d2 : H.set j c = H.take j ++ c :: H.drop (j + 1) := by rw [List.set_eq_take_append_cons_drop, if_pos hj]
      rw [d2] at es
      conv at es => rhs; rw [d1]
      exact Crc.sum_turned _ _ _ _ hc2 es
    · have hj2 : j = H.length ∨ j = H.length + 1 := by omega
      rw [List.set_append_right _ _ (by omega)] at hcr
      rcases hj2 with rfl | rfl
      · have e1 : (H ++ [x, y].set (H.length - H.length) c).take H.length = H := by rw [List.take_append_of_le_length (Nat.le_refl _), List.take_of_length_le (Nat.le_refl _)]
        have e2 : (H ++ [x, y].set (H.length - H.length) c).getD H.length 0 = c := by
          rw [List.getD_eq_getElem?_getD, List.getElem?_append_right (Nat.le_refl _)]; simp
        have e3 : (H ++ [x, y].set (H.length - H.length) c).getD (H.length + 1) 0 = y := by
          rw [List.getD_eq_getElem?_getD, List.getElem?_append_right (by omega)]; simp
        rw [e1, e2, e3] at hcr
        apply hc2
        have e4 : (H ++ [x, y])[H.length]'(by simp) = x := by rw [List.getElem_append_right (Nat.le_refl _)]; simp
        rw [e4]
        apply UInt8.toNat_inj.1
        omega
      · have e1 : (H ++ [x, y].set (H.length + 1 - H.length) c).take H.length = H := by rw [List.take_append_of_le_length (Nat.le_refl _), List.take_of_length_le (Nat.le_refl _)]
        have e2 : (H ++ [x, y].set (H.length + 1 - H.length) c).getD H.length 0 = x := by
          rw [List.getD_eq_getElem?_getD, List.getElem?_append_right (Nat.le_refl _)]; simp
        have e3 : (H ++ [x, y].set (H.length + 1 - H.length) c).getD (H.length + 1) 0 = c := by
          rw [List.getD_eq_getElem?_getD, List.getElem?_append_right (by omega)]; simp
        rw [e1, e2, e3] at hcr
        apply hc2
        have e4 : (H ++ [x, y])[H.length + 1]'(by simp) = y := by rw [List.getElem_append_right (by omega)]; simp
        rw [e4]
        apply UInt8.toNat_inj.1
        omega

/-- A frame that was cut off is short; of none nothing is read. -/
theorem cut_off (u k s : Int) (b : List UInt8) (hr : rightB u k s b.length = true) (i : Nat) (hi : i < 8 + b.length) : (read ((text u k s b).take i)).code = if i = 0 then 4 else 6 := by
  obtain ⟨r1, r2, r3, r4, r5, r6, r7⟩ := (rightB_iff _ _ _ _).1 hr
  have hL : ((text u k s b).take i).length = i := by rw [List.length_take, text_len]; omega
  by_cases h0 : i = 0
  · subst h0
    rw [if_pos rfl, List.take_zero]
    unfold read
    rw [if_pos (Or.inl rfl)]; rfl
  · rw [if_neg h0]
    have g : ∀ j, j < i → ((text u k s b).take i).getD j 0 = (text u k s b).getD j 0 := fun j hj => by
      rw [List.getD_eq_getElem?_getD, List.getD_eq_getElem?_getD, List.getElem?_take_of_lt hj]
    have a0 : at8 ((text u k s b).take i) 0 = 126 := by unfold at8; rw [g 0 (by omega)]; rfl
    unfold read
    rw [if_neg (by
      intro e
      rcases e with e | e
      · rw [e] at hL; simp at hL; omega
      · exact e a0)]
    by_cases h6 : i < 6
    · rw [if_pos (by rw [hL]; exact h6)]; rfl
    · rw [if_neg (by rw [hL]; exact h6)]
      have b5 : bodyLen ((text u k s b).take i) = b.length := by
        rw [← (text_at u k s b r7).1]; unfold bodyLen; rw [g 5 (by omega)]
      have e1 : at8 ((text u k s b).take i) 1 = u := by
        unfold at8; rw [g 1 (by omega)]
        exact by8_toNat u r1 (by omega)
      have e2 : at8 ((text u k s b).take i) 2 = k := by
        unfold at8; rw [g 2 (by omega)]
        exact by8_toNat k (by omega) (by omega)
      have e3 : seq ((text u k s b).take i) = s := by
        unfold seq at8
        rw [g 3 (by omega), g 4 (by omega)]
        have x1 := by8_toNat (s / 256) (by omega) (by omega)
        have x2 := by8_toNat (s % 256) (by omega) (by omega)
        have y1 : (((text u k s b).getD 3 0).toNat : Int) = s / 256 := x1
        have y2 : (((text u k s b).getD 4 0).toNat : Int) = s % 256 := x2
        rw [y1, y2]; omega
      rw [e1, e2, e3, b5, hL, if_neg (by
        intro e
        rcases e with e | e
        · have : rightB u k s 0 = true := (rightB_iff _ _ _ _).2 ⟨r1, r2, r3, r4, r5, r6, by omega⟩
          rw [this] at e; cases e
        · omega), if_pos hi]
      rfl
end Fr
end Go.Proofs.YtdlojhncbgfjbaaGreatDoor
