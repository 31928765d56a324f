/-
  Frames one behind the other: no program in this text.
-/
import Derived.Test.YtdlojhncbgfjbaaGreatDoorTurnMath
namespace Go.Proofs.YtdlojhncbgfjbaaGreatDoor
namespace Fr
/-- What FramesOf finds, told with enough fuel. -/
def scanN : Nat → List UInt8 → List Out × Nat × Nat
  | 0, _ => ([], 0, 0)
  | f + 1, l =>
    if l = [] then ([], 0, 0)
    else if (read l).code = 6 then ([], 0, l.length)
    else if (read l).code = 0 then ((read l) :: (scanN f (l.drop (read l).used.toNat)).1, (scanN f (l.drop (read l).used.toNat)).2)
    else ((scanN f (l.drop 1)).1, (scanN f (l.drop 1)).2.1 + 1, (scanN f (l.drop 1)).2.2)
def scan (l : List UInt8) : List Out × Nat × Nat := scanN l.length l

theorem read_used {l : List UInt8} (h : (read l).code = 0) : 8 ≤ (read l).used ∧ (read l).used ≤ l.length := by
  have hr := read_ok h
  have : (read l).used = 8 + bodyLen l := by
    unfold read at h ⊢
    split at h
    · simp [bad] at h
    · rename_i h1
      rw [if_neg h1]
      split at h
      · simp [bad] at h
      · rename_i h2
        rw [if_neg h2]
        split at h
        · simp [bad] at h
        · rename_i h3
          rw [if_neg h3]
          split at h
          · simp [bad] at h
          · rename_i h4
            rw [if_neg h4]
            split at h
            · simp [bad] at h
            · rename_i h5
              rw [if_neg h5]
  rw [this]
  have := hr.2.2.1
  omega

theorem scanN_fuel (f g : Nat) (l : List UInt8) (hf : l.length ≤ f) (hg : l.length ≤ g) : scanN f l = scanN g l := by
  induction f generalizing g l with
  | zero =>
    have : l = [] := List.eq_nil_of_length_eq_zero (by omega)
    subst this
    cases g with
    | zero => rfl
    | succ g => unfold scanN; rw [if_pos rfl]
  | succ f ih =>
    cases g with
    | zero =>
      have : l = [] := List.eq_nil_of_length_eq_zero (by omega)
      subst this
      unfold scanN; rw [if_pos rfl]
    | succ g =>
      unfold scanN
      by_cases hl : l = []
      · rw [if_pos hl, if_pos hl]
      · rw [if_neg hl, if_neg hl]
        have hpos : 0 < l.length := List.length_pos_iff.2 hl
        by_cases h6 : (read l).code = 6
        · rw [if_pos h6, if_pos h6]
        · rw [if_neg h6, if_neg h6]
          by_cases h0 : (read l).code = 0
          · have hu := read_used h0
            rw [if_pos h0, if_pos h0, ih g (l.drop (read l).used.toNat) (by rw [List.length_drop]; omega) (by rw [List.length_drop]; omega)]
          · rw [if_neg h0, if_neg h0, ih g (l.drop 1) (by rw [List.length_drop]; omega) (by rw [List.length_drop]; omega)]
theorem scan_nil : scan [] = ([], 0, 0) := rfl
theorem scan_short (l : List UInt8) (hl : l ≠ []) (h : (read l).code = 6) : scan l = ([], 0, l.length) := by
  have hpos : 0 < l.length := List.length_pos_iff.2 hl
  obtain ⟨m, hm⟩ : ∃ m, l.length = m + 1 := ⟨l.length - 1, by omega⟩
  unfold scan
  conv => lhs; rw [hm]; unfold scanN
  rw [if_neg hl, if_pos h]
theorem scan_lost (l : List UInt8) (hl : l ≠ []) (h : (read l).code ≠ 6) (h0 : (read l).code ≠ 0) : scan l = ((scan (l.drop 1)).1, (scan (l.drop 1)).2.1 + 1, (scan (l.drop 1)).2.2) := by
  have hpos : 0 < l.length := List.length_pos_iff.2 hl
  obtain ⟨m, hm⟩ : ∃ m, l.length = m + 1 := ⟨l.length - 1, by omega⟩
  have e : scan (l.drop 1) = scanN m (l.drop 1) := scanN_fuel _ _ _ (Nat.le_refl _) (by rw [List.length_drop]; omega)
  rw [e]
  unfold scan
  conv => lhs; rw [hm]; unfold scanN
  rw [if_neg hl, if_neg h, if_neg h0]
theorem scan_frame (l : List UInt8) (hl : l ≠ []) (h0 : (read l).code = 0) : scan l = (read l :: (scan (l.drop (read l).used.toNat)).1, (scan (l.drop (read l).used.toNat)).2) := by
  have hpos : 0 < l.length := List.length_pos_iff.2 hl
  obtain ⟨m, hm⟩ : ∃ m, l.length = m + 1 := ⟨l.length - 1, by omega⟩
  have hu := read_used h0
  have e : scan (l.drop (read l).used.toNat) = scanN m (l.drop (read l).used.toNat) := scanN_fuel _ _ _ (Nat.le_refl _) (by rw [List.length_drop]; omega)
  rw [e]
  unfold scan
  conv => lhs; rw [hm]; unfold scanN
  rw [if_neg hl, if_neg (by rw [h0]; decide), if_pos h0]

/-- A right frame's bytes are read as that frame, whatever stands behind them. -/
theorem read_text (u k s : Int) (b r : List UInt8) (hr : rightB u k s b.length = true) : read (text u k s b ++ r) = ⟨u, k, s, b, 8 + b.length, 0⟩ := by
  obtain ⟨r1, r2, r3, r4, r5, r6, r7⟩ := (rightB_iff _ _ _ _).1 hr
  have hL : (text u k s b ++ r).length = 8 + b.length + r.length := by rw [List.length_append, text_len]
  have g : ∀ j, j < 8 + b.length → (text u k s b ++ r).getD j 0 = (text u k s b).getD j 0 := fun j hj => by
    rw [List.getD_eq_getElem?_getD, List.getD_eq_getElem?_getD, List.getElem?_append_left (by rw [text_len]; exact hj)]
  have a0 : at8 (text u k s b ++ r) 0 = 126 := by unfold at8; rw [g 0 (by omega)]; rfl
  have b5 : bodyLen (text u k s b ++ r) = b.length := by
    rw [← (text_at u k s b r7).1]; unfold bodyLen; rw [g 5 (by omega)]
  have e1 : at8 (text u k s b ++ r) 1 = u := by
    unfold at8; rw [g 1 (by omega)]
    exact by8_toNat u r1 (by omega)
  have e2 : at8 (text u k s b ++ r) 2 = k := by
    unfold at8; rw [g 2 (by omega)]
    exact by8_toNat k (by omega) (by omega)
  have e3 : seq (text u k s b ++ r) = s := by
    unfold seq at8
    rw [g 3 (by omega), g 4 (by omega)]
    have x1 := by8_toNat (s / 256) (by omega) (by omega)
    have x2 := by8_toNat (s % 256) (by omega) (by omega)
    have y1 : (((text u k s b).getD 3 0).toNat : Int) = s / 256 := x1
    have y2 : (((text u k s b).getD 4 0).toNat : Int) = s % 256 := x2
    rw [y1, y2]; omega
  have eb : body (text u k s b ++ r) = b := by
    unfold body
    rw [b5]
    have hd : (text u k s b ++ r).drop 6 = b ++ ([by8 ((Crc.sum (head u k s b) : Int) / 256), by8 ((Crc.sum (head u k s b) : Int) % 256)] ++ r) := by
      unfold text head; simp
    rw [hd, List.take_left]
  have ht : text (at8 (text u k s b ++ r) 1) (at8 (text u k s b ++ r) 2) (seq (text u k s b ++ r)) (body (text u k s b ++ r)) = (text u k s b ++ r).take (8 + bodyLen (text u k s b ++ r)) := by
    rw [e1, e2, e3, eb, b5, ← text_len u k s b, List.take_left]
  have hcr := (text_read _ (by rw [b5, hL]; omega) a0).1 ht
  unfold read
  rw [if_neg (by
    intro e
    rcases e with e | e
    · rw [e] at hL; simp at hL; omega
    · exact e a0), if_neg (by rw [hL]; omega), if_neg (by
    intro e
    rcases e with e | e
    · have : rightB u k s 0 = true := (rightB_iff _ _ _ _).2 ⟨r1, r2, r3, r4, r5, r6, by omega⟩
      rw [e1, e2, e3, this] at e; cases e
    · rw [b5] at e; omega), if_neg (by rw [b5, hL]; omega), if_neg (fun h => h hcr)]
  rw [e1, e2, e3, eb, b5]
end Fr
end Go.Proofs.YtdlojhncbgfjbaaGreatDoor
