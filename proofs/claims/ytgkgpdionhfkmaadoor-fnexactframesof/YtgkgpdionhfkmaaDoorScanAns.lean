/-
  What the model's FramesOf answers, whatever the text.
-/
import Derived.Test.YtgkgpdionhfkmaaDoorScanLaw
namespace Go.Proofs.YtgkgpdionhfkmaaDoor
open Go.RowKit Go.Deep

theorem Fr.scanN_len (f : Nat) (l : List UInt8) : (Fr.scanN f l).1.length ≤ l.length := by
  induction f generalizing l with
  | zero => simp [Fr.scanN]
  | succ f ih =>
    unfold Fr.scanN
    by_cases hl : l = []
    · rw [if_pos hl]; simp
    · rw [if_neg hl]
      have hpos : 0 < l.length := List.length_pos_iff.2 hl
      by_cases h6 : (Fr.read l).code = 6
      · rw [if_pos h6]; simp
      · rw [if_neg h6]
        by_cases h0 : (Fr.read l).code = 0
        · have hu := Fr.read_used h0
          rw [if_pos h0]
          have := ih (l.drop (Fr.read l).used.toNat)
          rw [List.length_drop] at this
          simp only [List.length_cons]
          omega
        · rw [if_neg h0]
          have := ih (l.drop 1)
          rw [List.length_drop] at this
          show (Fr.scanN f (l.drop 1)).1.length ≤ l.length
          omega
theorem Fr.scan_len (l : List UInt8) : (Fr.scan l).1.length ≤ l.length := Fr.scanN_len _ _
theorem own_down {B B' n size : Nat} {e : TypeId} {v : Value} {xs : List Value} {W : World} (h : W.ownsRow B e size v n xs) (hb : B' ≤ B) : W.ownsRow B' e size v n xs := by
  obtain ⟨h1, h2⟩ := h
  refine ⟨h1, ?_⟩
  rcases h2 with h2 | ⟨g, cap, cur, e1, e2, e3, e4⟩
  · exact Or.inl h2
  · exact Or.inr ⟨g, cap, cur, e1, Nat.le_trans hb e2, e3, e4⟩
theorem specAns (G : World → Prop) (s : ByteArray) (hs : s.size ≤ 20000) : AnsFrames G 15 s (Fr.scan s.data.toList).1 (Fr.scan s.data.toList).2.1 (Fr.scan s.data.toList).2.2 0 := fun w _ => by
  refine (specScan_any s hs w).mono ?_
  rintro e w' ⟨v, h1, h2, h3⟩
  exact ⟨v, h1, own_down h2 (by omega), h3⟩
set_option maxRecDepth 100000 in
set_option maxHeartbeats 2000000 in
theorem specAns_over (G : World → Prop) (s : ByteArray) (hs : 20000 < s.size) : AnsFrames G 15 s [] 0 0 2 := fun w _ => by
  have hz : (20000 : Int) < (s.size : Int) := by omega
  go_enter Tryd.func15, Tryd.ntmps15
  go_wp2_with fail
  exact bodyPost_ret (v := .agg #[.slice none 0 0, .int .i64 0, .int .i64 0, .int .i64 2]) (by
    simp [results, Tryd.results15, go_sem]) rfl ⟨.slice none 0 0, rfl, World.ownsRow_nil _ _ _ _, (Below.refl _ _).alloc (Nat.le_refl _) _⟩
end Go.Proofs.YtgkgpdionhfkmaaDoor
