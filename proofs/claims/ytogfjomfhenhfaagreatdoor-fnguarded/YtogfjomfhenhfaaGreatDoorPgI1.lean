/-
  The program's test of a name, its forms of blocks, what a block's numbers may be.
-/
import Derived.Test.YtogfjomfhenhfaaGreatDoorPgMem
import Derived.Test.YtogfjomfhenhfaaGreatDoorPgM0
import Derived.Lib.OthersKept
import Derived.Laws.RangeAny
import Derived.WalkSmall
namespace Go.Proofs.YtogfjomfhenhfaaGreatDoor
open Go.RowKit Go.Deep

theorem gstr_ne {x y : ByteArray} (h : x ≠ y) : (x.toList == y.toList) = false := by
  rw [Bool.eq_false_iff]
  intro k
  apply h
  rw [beq_iff_eq, ByteArray.toList_eq, ByteArray.toList_eq] at k
  apply ByteArray.ext
  exact Array.toList_inj.1 k
theorem gstr_empty {s : ByteArray} (h : s.size ≠ 0) : s.toList.isEmpty = false := by
  rw [ByteArray.toList_eq, Bool.eq_false_iff]
  intro e
  exact h (congrArg List.length (List.isEmpty_iff.1 e))
theorem gstr_nil {s : ByteArray} (h : s.size = 0) : s = ⟨#[]⟩ := by
  obtain ⟨d⟩ := s
  have : d.size = 0 := h
  rw [Array.eq_empty_of_size_eq_zero this]
set_option maxRecDepth 100000 in
set_option maxHeartbeats 4000000 in
theorem isName_any (s : ByteArray) (w : World) (hs : s.size ≤ 9223372036854775807) :
    Calls Tryz.prog 134 #[.string s] w fun e w' => e = .returned (.bool (dB (Pg.NameOk s))) ∧ Below w.heap.size w w' := by
  by_cases h0 : s.size = 0
  · have HN : Hid (dB (Pg.NameOk s) = false) := dB_ff (fun k => by have := k.1; omega)
    obtain rfl := gstr_nil h0
    clear h0
    go_enter Tryz.func134, Tryz.ntmps134
    go_wp2_with fail
    go_ret
    exact ⟨by rw [HN.out]; rfl, Below.refl _ _⟩
  · have hne := gstr_empty h0
    by_cases h1 : 20 < s.size
    · have HN : Hid (dB (Pg.NameOk s) = false) := dB_ff (fun k => by have := k.2.1; omega)
      have h2 : (20 : Int) < (s.size : Int) := by omega
      clear h0
      go_enter Tryz.func134, Tryz.ntmps134
      go_wp2_with fail
      go_ret
      exact ⟨by rw [HN.out]; rfl, Below.refl _ _⟩
    · have h2 : ¬ (20 : Int) < (s.size : Int) := by omega
      have H0 : Hid (1 ≤ s.size ∧ s.size ≤ 20) := by show _ ∧ _; omega
      have HST : Hid ((w.alloc (.stringIter s 0)).heap[w.heap.size]? = some (.stringIter s 0)) := blk_alloc_new _ _
      clear h0 h1
      go_enter Tryz.func134, Tryz.ntmps134
      go_wp2_with fail
      go_loopw [] (fun wr => ∃ (pos : Nat), pos ≤ s.size ∧ Hid (wr.heap[w.heap.size]? = some (.stringIter s pos)) ∧ Hid (∀ i (hi : i < s.size), i < pos → Pg.Let (s[i]'hi) ∨ (0 < i ∧ Pg.Beh (s[i]'hi))) ∧ Hid (Below w.heap.size w wr)) (fun wr => s.size - wr.iterPos w.heap.size)
      case atStart => exact ⟨0, Nat.zero_le _, HST, fun i _ hi => absurd hi (Nat.not_lt_zero _), nbel_alloc _ _⟩
      case round =>
        obtain ⟨pos, hpos, hit, hP, hB⟩ := hrel
        have hsz : w.heap.size < wr.heap.size := (Array.getElem?_eq_some_iff.1 hit.out).1
        by_cases hp : pos < s.size
        · by_cases ha : (s[pos]'hp).toNat < 128
          · have hnx : ∀ ty, (Instr.next (.pointer (some ⟨w.heap.size, 0, none⟩)) true ty).run Tryz.prog wr = _ := fun ty => Lib.run_next_ascii_at wr w.heap.size s pos ty hit.out hp ha
            have hit2 := Lib.hid (Lib.iterAt_heap wr w.heap.size s pos (pos + 1) hit.out)
            have hB2 := Lib.hid (Lib.below_iterAt hB.out (k := w.heap.size) (Nat.le_refl _) s (pos + 1))
            obtain ⟨c, hc⟩ : ∃ c : Nat, c = (s[pos]'hp).toNat := ⟨_, rfl⟩
            rw [← hc] at hnx
            have hc8 : c < 128 := by omega
            have HC : Hid (∀ h, c = (s[pos]'h).toNat) := fun _ => hc
            have HP0 := Lib.hid hp
            clear hc ha
            by_cases c1 : 97 ≤ c ∧ c ≤ 122
            · have d1 : (97 : Int) ≤ (c : Int) := by omega
              have d2 : (c : Int) ≤ 122 := by omega
              have HP2 : Hid (∀ i (hi : i < s.size), i < pos + 1 → Pg.Let (s[i]'hi) ∨ (0 < i ∧ Pg.Beh (s[i]'hi))) := fun i hi hlt => by
                by_cases e : i = pos
                · subst e; exact Or.inl (by unfold Pg.Let; rw [← HC.out hi]; exact c1)
                · exact hP.out i hi (by omega)
              by_cases q1 : 48 ≤ c
              · have q2 : (48 : Int) ≤ (c : Int) := by omega
                have q3 : ¬ (c : Int) ≤ 57 := by omega
                have q4 : ((c : Int) == 45) = false := by simp; omega
                clear c1 q1
                go_wp2_with fail
                go_roundw
                case rel => exact ⟨pos + 1, HP0.out, hit2, HP2, hB2⟩
                case measure =>
                  rw [iterPos_of hit2.out, iterPos_of hit.out]
                  have := HP0.out
                  omega
              · omega
            · by_cases c2 : (48 ≤ c ∧ c ≤ 57) ∨ c = 45
              · by_cases c3 : pos = 0
                · subst c3
                  have HN : Hid (dB (Pg.NameOk s) = false) := dB_ff (fun k => by
                    rcases k.2.2 0 HP0.out with k1 | k1
                    · unfold Pg.Let at k1; rw [← HC.out] at k1; exact c1 k1
                    · omega)
                  by_cases f1 : (97 : Int) ≤ (c : Int)
                  · have f2 : ¬ (c : Int) ≤ 122 := by omega
                    have f3 : (48 : Int) ≤ (c : Int) := by omega
                    have f4 : ¬ (c : Int) ≤ 57 := by omega
                    have f7 : ¬ c = 45 := by omega
                    have f5 : ((c : Int) == 45) = false := by simp; omega
                    first
                    | (exfalso; omega)
                    | (clear c1 c2 f7
                       go_wp2_with fail
                       go_ret
                       exact ⟨by rw [HN.out]; rfl, hB2.out⟩)
                  · by_cases f3 : (48 : Int) ≤ (c : Int)
                    · by_cases f4 : (c : Int) ≤ 57
                      · have f7 : ¬ c = 45 := by omega
                        first
                        | (exfalso; omega)
                        | (clear c1 c2 f7
                           go_wp2_with fail
                           go_ret
                           exact ⟨by rw [HN.out]; rfl, hB2.out⟩)
                      · have f7 : ¬ c = 45 := by omega
                        have f5 : ((c : Int) == 45) = false := by simp; omega
                        first
                        | (exfalso; omega)
                        | (clear c1 c2 f7
                           go_wp2_with fail
                           go_ret
                           exact ⟨by rw [HN.out]; rfl, hB2.out⟩)
                    · by_cases f7 : c = 45
                      · have f5 : ((c : Int) == 45) = true := by simp; omega
                        first
                        | (exfalso; omega)
                        | (clear c1 c2 f7
                           go_wp2_with fail
                           go_ret
                           exact ⟨by rw [HN.out]; rfl, hB2.out⟩)
                      · have f5 : ((c : Int) == 45) = false := by simp; omega
                        first
                        | (exfalso; omega)
                        | (clear c1 c2 f7
                           go_wp2_with fail
                           go_ret
                           exact ⟨by rw [HN.out]; rfl, hB2.out⟩)
                · have c4 : ((pos : Int) == 0) = false := by simp; omega
                  have HP2 : Hid (∀ i (hi : i < s.size), i < pos + 1 → Pg.Let (s[i]'hi) ∨ (0 < i ∧ Pg.Beh (s[i]'hi))) := fun i hi hlt => by
                    by_cases e : i = pos
                    · subst e; exact Or.inr ⟨by omega, by unfold Pg.Beh; rw [← HC.out hi]; exact c2⟩
                    · exact hP.out i hi (by omega)
                  by_cases f1 : (97 : Int) ≤ (c : Int)
                  · have f2 : ¬ (c : Int) ≤ 122 := by omega
                    have f3 : (48 : Int) ≤ (c : Int) := by omega
                    have f4 : ¬ (c : Int) ≤ 57 := by omega
                    have f7 : ¬ c = 45 := by omega
                    have f5 : ((c : Int) == 45) = false := by simp; omega
                    first
                    | (exfalso; omega)
                    | (clear c1 c2 f7
                       go_wp2_with fail
                       go_roundw
                       case rel => exact ⟨pos + 1, HP0.out, hit2, HP2, hB2⟩
                       case measure =>
                         rw [iterPos_of hit2.out, iterPos_of hit.out]
                         have := HP0.out
                         omega)
                  · by_cases f3 : (48 : Int) ≤ (c : Int)
                    · by_cases f4 : (c : Int) ≤ 57
                      · have f7 : ¬ c = 45 := by omega
                        first
                        | (exfalso; omega)
                        | (clear c1 c2 f7
                           go_wp2_with fail
                           go_roundw
                           case rel => exact ⟨pos + 1, HP0.out, hit2, HP2, hB2⟩
                           case measure =>
                             rw [iterPos_of hit2.out, iterPos_of hit.out]
                             have := HP0.out
                             omega)
                      · have f7 : ¬ c = 45 := by omega
                        have f5 : ((c : Int) == 45) = false := by simp; omega
                        first
                        | (exfalso; omega)
                        | (clear c1 c2 f7
                           go_wp2_with fail
                           go_roundw
                           case rel => exact ⟨pos + 1, HP0.out, hit2, HP2, hB2⟩
                           case measure =>
                             rw [iterPos_of hit2.out, iterPos_of hit.out]
                             have := HP0.out
                             omega)
                    · by_cases f7 : c = 45
                      · have f5 : ((c : Int) == 45) = true := by simp; omega
                        first
                        | (exfalso; omega)
                        | (clear c1 c2 f7
                           go_wp2_with fail
                           go_roundw
                           case rel => exact ⟨pos + 1, HP0.out, hit2, HP2, hB2⟩
                           case measure =>
                             rw [iterPos_of hit2.out, iterPos_of hit.out]
                             have := HP0.out
                             omega)
                      · have f5 : ((c : Int) == 45) = false := by simp; omega
                        first
                        | (exfalso; omega)
                        | (clear c1 c2 f7
                           go_wp2_with fail
                           go_roundw
                           case rel => exact ⟨pos + 1, HP0.out, hit2, HP2, hB2⟩
                           case measure =>
                             rw [iterPos_of hit2.out, iterPos_of hit.out]
                             have := HP0.out
                             omega)
              · have HN : Hid (dB (Pg.NameOk s) = false) := dB_ff (fun k => by
                  rcases k.2.2 pos HP0.out with k1 | k1
                  · unfold Pg.Let at k1; rw [← HC.out] at k1; exact c1 k1
                  · have k2 := k1.2; unfold Pg.Beh at k2; rw [← HC.out] at k2; exact c2 k2)
                rcases Bool.eq_false_or_eq_true ((pos : Int) == 0) with c3 | c3
                · by_cases f1 : (97 : Int) ≤ (c : Int)
                  · have f2 : ¬ (c : Int) ≤ 122 := by omega
                    have f3 : (48 : Int) ≤ (c : Int) := by omega
                    have f4 : ¬ (c : Int) ≤ 57 := by omega
                    have f7 : ¬ c = 45 := by omega
                    have f5 : ((c : Int) == 45) = false := by simp; omega
                    first
                    | (exfalso; omega)
                    | (clear c1 c2 f7
                       go_wp2_with fail
                       go_ret
                       exact ⟨by rw [HN.out]; rfl, hB2.out⟩)
                  · by_cases f3 : (48 : Int) ≤ (c : Int)
                    · by_cases f4 : (c : Int) ≤ 57
                      · have f7 : ¬ c = 45 := by omega
                        first
                        | (exfalso; omega)
                        | (clear c1 c2 f7
                           go_wp2_with fail
                           go_ret
                           exact ⟨by rw [HN.out]; rfl, hB2.out⟩)
                      · have f7 : ¬ c = 45 := by omega
                        have f5 : ((c : Int) == 45) = false := by simp; omega
                        first
                        | (exfalso; omega)
                        | (clear c1 c2 f7
                           go_wp2_with fail
                           go_ret
                           exact ⟨by rw [HN.out]; rfl, hB2.out⟩)
                    · by_cases f7 : c = 45
                      · have f5 : ((c : Int) == 45) = true := by simp; omega
                        first
                        | (exfalso; omega)
                        | (clear c1 c2 f7
                           go_wp2_with fail
                           go_ret
                           exact ⟨by rw [HN.out]; rfl, hB2.out⟩)
                      · have f5 : ((c : Int) == 45) = false := by simp; omega
                        first
                        | (exfalso; omega)
                        | (clear c1 c2 f7
                           go_wp2_with fail
                           go_ret
                           exact ⟨by rw [HN.out]; rfl, hB2.out⟩)
                · by_cases f1 : (97 : Int) ≤ (c : Int)
                  · have f2 : ¬ (c : Int) ≤ 122 := by omega
                    have f3 : (48 : Int) ≤ (c : Int) := by omega
                    have f4 : ¬ (c : Int) ≤ 57 := by omega
                    have f7 : ¬ c = 45 := by omega
                    have f5 : ((c : Int) == 45) = false := by simp; omega
                    first
                    | (exfalso; omega)
                    | (clear c1 c2 f7
                       go_wp2_with fail
                       go_ret
                       exact ⟨by rw [HN.out]; rfl, hB2.out⟩)
                  · by_cases f3 : (48 : Int) ≤ (c : Int)
                    · by_cases f4 : (c : Int) ≤ 57
                      · have f7 : ¬ c = 45 := by omega
                        first
                        | (exfalso; omega)
                        | (clear c1 c2 f7
                           go_wp2_with fail
                           go_ret
                           exact ⟨by rw [HN.out]; rfl, hB2.out⟩)
                      · have f7 : ¬ c = 45 := by omega
                        have f5 : ((c : Int) == 45) = false := by simp; omega
                        first
                        | (exfalso; omega)
                        | (clear c1 c2 f7
                           go_wp2_with fail
                           go_ret
                           exact ⟨by rw [HN.out]; rfl, hB2.out⟩)
                    · by_cases f7 : c = 45
                      · have f5 : ((c : Int) == 45) = true := by simp; omega
                        first
                        | (exfalso; omega)
                        | (clear c1 c2 f7
                           go_wp2_with fail
                           go_ret
                           exact ⟨by rw [HN.out]; rfl, hB2.out⟩)
                      · have f5 : ((c : Int) == 45) = false := by simp; omega
                        first
                        | (exfalso; omega)
                        | (clear c1 c2 f7
                           go_wp2_with fail
                           go_ret
                           exact ⟨by rw [HN.out]; rfl, hB2.out⟩)
          · have hnx : ∀ ty, (Instr.next (.pointer (some ⟨w.heap.size, 0, none⟩)) true ty).run Tryz.prog wr = _ := fun ty => Lib.run_next_any_at wr w.heap.size s pos ty hit.out hp
            have hB2 := Lib.hid (Lib.below_iterAt hB.out (k := w.heap.size) (Nat.le_refl _) s (pos + (Utf8.decode s pos).2))
            have hd := (decode_high s pos hp (by omega)).1
            have hd1 := decode_le s pos
            have HN : Hid (dB (Pg.NameOk s) = false) := dB_ff (fun k => by
              rcases k.2.2 pos hp with k1 | k1
              · unfold Pg.Let at k1; omega
              · have k2 := k1.2; unfold Pg.Beh at k2; omega)
            obtain ⟨c, hc⟩ : ∃ c : Nat, c = (Utf8.decode s pos).1 := ⟨_, rfl⟩
            rw [← hc] at hnx hd hd1
            clear hc ha
            have d1 : (97 : Int) ≤ (c : Int) := by omega
            have d2 : ¬ (c : Int) ≤ 122 := by omega
            have d3 : (48 : Int) ≤ (c : Int) := by omega
            have d4 : ¬ (c : Int) ≤ 57 := by omega
            have d5 : ((c : Int) == 45) = false := by simp; omega
            rcases Bool.eq_false_or_eq_true ((pos : Int) == 0) with c3 | c3
            · go_wp2_with fail
              go_ret
              exact ⟨by rw [HN.out]; rfl, hB2.out⟩
            · go_wp2_with fail
              go_ret
              exact ⟨by rw [HN.out]; rfl, hB2.out⟩
        · have hnx : ∀ ty, (Instr.next (.pointer (some ⟨w.heap.size, 0, none⟩)) true ty).run Tryz.prog wr = _ := fun ty => Lib.run_next_end_at wr w.heap.size s pos ty hit.out hp
          have HN : Hid (dB (Pg.NameOk s) = true) := dB_tt ⟨H0.out.1, H0.out.2, fun i hi => hP.out i hi (by omega)⟩
          go_wp2_with fail
          go_ret
          exact ⟨by rw [HN.out]; rfl, hB.out⟩
end Go.Proofs.YtogfjomfhenhfaaGreatDoor
