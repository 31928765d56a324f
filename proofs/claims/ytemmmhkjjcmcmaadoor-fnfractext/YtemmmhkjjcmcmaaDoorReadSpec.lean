/-
  The contract of the model's FracRead.
-/
import Derived.Test.YtemmmhkjjcmcmaaDoorReadNum
import Derived.Test.YtemmmhkjjcmcmaaDoorReadImpl
namespace Go.Proofs.YtemmmhkjjcmcmaaDoor
open Go.RowKit

set_option maxHeartbeats 1000000 in
theorem specRead_long (s : ByteArray) (hs : 20000 < s.size) (w : World) :
    Calls Tryd.prog 19 #[.string s] w fun e w' => e = .returned (.agg #[.int .i64 0, .int .i64 0, .int .i64 2]) ∧ Below w.heap.size w w' := by
  have hz : (20000 : Int) < (s.size : Int) := by omega
  go_enter Tryd.func19, Tryd.ntmps19
  go_wp2_with fail
  exact bodyPost_ret (v := .agg #[.int .i64 0, .int .i64 0, .int .i64 2]) (by simp [results, Tryd.results19, go_sem]) rfl ⟨rfl, (Below.refl _ _).alloc (Nat.le_refl _) _⟩

namespace M
/-- Where the model finds the first slash. -/
def CutAt (l : List UInt8) (i c : Nat) : Prop := ((47 : UInt8) ∉ l.take i ∧ c = l.length) ∨ (c < i ∧ c < l.length ∧ l = l.take c ++ 47 :: l.drop (c + 1) ∧ (47 : UInt8) ∉ l.take c)
theorem cutAt_step (l : List UInt8) (i c : Nat) (h : i < l.length) (H : CutAt l i c) : CutAt l (i + 1) (if l[i] = 47 ∧ c = l.length then i else c) := by
  have e : l.take (i + 1) = l.take i ++ [l[i]] := List.take_succ_eq_append_getElem h
  rcases H with ⟨h1, h2⟩ | ⟨h1, h2, h3, h4⟩
  · by_cases k : l[i] = 47
    · rw [if_pos ⟨k, h2⟩]
      refine Or.inr ⟨by omega, h, ?_, h1⟩
      conv => lhs; rw [← List.take_append_drop i l]
      rw [List.drop_eq_getElem_cons h, k]
    · rw [if_neg (fun x => k x.1)]
      refine Or.inl ⟨?_, h2⟩
      rw [e]
      intro hm
      rcases List.mem_append.1 hm with hm | hm
      · exact h1 hm
      · exact k (List.mem_singleton.1 hm).symm
  · rw [if_neg (fun x => by omega)]
    exact Or.inr ⟨by omega, h2, h3, h4⟩

/-- What the numbers found in a text owe its reading. -/
def Finds (l : List UInt8) (n d : Int) (ok : Bool) : Prop := ∀ n' d', rightB n' d' = true → textL n' d' = l → n = n' ∧ d = d' ∧ ok = true
theorem finds1 {l : List UInt8} {n : Int} {b : Bool} (hl : (47 : UInt8) ∉ l) (h : NumTo l n b) : Finds l n 1 b := by
  intro n' d' hr e
  have bd := right_bd hr
  rcases textL_cut n' d' hr with ⟨k, e2, _⟩ | ⟨k, e2, _⟩
  · obtain ⟨a, b⟩ := h.2.2.2 n' bd.1 bd.2.1 (e2.symm.trans e)
    exact ⟨a, k.symm, b⟩
  · exfalso; apply hl; rw [← e, e2]; simp
theorem finds2 {l a b : List UInt8} {n d : Int} {x y : Bool} (hl : l = a ++ 47 :: b) (ha : (47 : UInt8) ∉ a) (h : NumTo a n x) (h' : NumTo b d y) : Finds l n d (x && y) := by
  intro n' d' hr e
  have bd := right_bd hr
  have c2 := cut_at a b ha
  rw [← hl, ← e] at c2
  rcases textL_cut n' d' hr with ⟨k, e2, c⟩ | ⟨k, e2, c⟩
  · rw [c] at c2; simp at c2
  · rw [c] at c2
    simp at c2
    obtain ⟨p, q⟩ := h.2.2.2 n' bd.1 bd.2.1 c2.1
    obtain ⟨p', q'⟩ := h'.2.2.2 d' bd.2.2.1 bd.2.2.2 c2.2
    exact ⟨p, p', by rw [q, q']; rfl⟩
theorem read_yes {l : List UInt8} {n d : Int} (h : textL n d = l) (hl : l ≠ []) : ReadTo l n d 0 :=
  Or.inl ⟨right_of_text (by rw [h]; exact hl), h, rfl⟩
theorem read_no {l : List UInt8} {n d : Int} {ok : Bool} (h : Finds l n d ok) (k : ok = false ∨ textL n d ≠ l ∨ l = []) : ReadTo l 0 0 3 := by
  refine Or.inr ⟨fun n' d' hr e => ?_, rfl, rfl, rfl⟩
  obtain ⟨a, b, c⟩ := h n' d' hr e
  subst a b c
  rcases k with k | k | k
  · cases k
  · exact k e
  · exact textL_ne hr (e.trans k)
end M

theorem read_set3a {w4 : World} {b : Nat} {u v z : Value} (s0 : w4.cell? ⟨b, 0, none⟩ = some u) (s1 : w4.cell? ⟨b, 1, none⟩ = some v) (s2 : w4.cell? ⟨b, 2, none⟩ = some z) (x y q : Value) (o : Obj) :
    ((((w4.setCell ⟨b, 0, none⟩ x).setCell ⟨b, 1, none⟩ y).setCell ⟨b, 2, none⟩ q).alloc o).cell? ⟨b, 0, none⟩ = some x ∧ ((((w4.setCell ⟨b, 0, none⟩ x).setCell ⟨b, 1, none⟩ y).setCell ⟨b, 2, none⟩ q).alloc o).cell? ⟨b, 1, none⟩ = some y ∧ ((((w4.setCell ⟨b, 0, none⟩ x).setCell ⟨b, 1, none⟩ y).setCell ⟨b, 2, none⟩ q).alloc o).cell? ⟨b, 2, none⟩ = some q := by
  have hl : b < w4.heap.size := World.block_lt_of_cell? _ _ s0
  refine ⟨?_, ?_, ?_⟩
  · rw [World.cell?_alloc_lt _ _ ⟨b, 0, none⟩ (by simpa using hl)]
    rw [World.cell?_setCell_other _ _ _ _ (by simp), World.cell?_setCell_other _ _ _ _ (by simp)]
    exact World.cell?_setCell_same _ _ _ s0
  · rw [World.cell?_alloc_lt _ _ ⟨b, 1, none⟩ (by simpa using hl)]
    rw [World.cell?_setCell_other _ _ _ _ (by simp)]
    exact World.cell?_setCell_same _ _ _ (by rw [World.cell?_setCell_other _ _ _ _ (by simp)]; exact s1)
  · rw [World.cell?_alloc_lt _ _ ⟨b, 2, none⟩ (by simpa using hl)]
    exact World.cell?_setCell_same _ _ _ (by rw [World.cell?_setCell_other _ _ _ _ (by simp), World.cell?_setCell_other _ _ _ _ (by simp)]; exact s2)

theorem str_empty {s : ByteArray} (h : s.size ≠ 0) : s.toList.isEmpty = false := by
  rw [ByteArray.toList_eq, Bool.eq_false_iff]
  intro e
  exact h (congrArg List.length (List.isEmpty_iff.1 e))

/-- The ending of the model's reader. -/
def SReadEnd (l : List UInt8) (e : Ending) : Prop := ∃ n d c, M.ReadTo l n d c ∧ e = .returned (.agg #[.int .i64 n, .int .i64 d, .int .i64 c])

set_option maxRecDepth 100000 in
set_option maxHeartbeats 1000000 in
theorem specRead_any (s : ByteArray) (hs : s.size ≤ 20000) (w : World) :
    Calls Tryd.prog 19 #[.string s] w fun e w' => SReadEnd s.data.toList e ∧ Below w.heap.size w w' := by
  have hz : ¬ (20000 : Int) < (s.size : Int) := by omega
  have hlen : Hid (s.data.toList.length = s.size) := rfl
  go_enter Tryd.func19, Tryd.ntmps19
  go_wp2_with fail
  go_loop [3, 4] (fun cv iv => ∃ k c : Nat, k ≤ s.size ∧ cv = .int .i64 c ∧ iv = .int .i64 k ∧ c ≤ s.size ∧ Hid (M.CutAt s.data.toList k c)) (fun _ iv => s.size - (intOf iv).toNat)
  case atStart => exact ⟨0, s.size, Nat.zero_le _, rfl, rfl, Nat.le_refl _, Or.inl ⟨by simp, rfl⟩⟩
  case round =>
    obtain ⟨k, c, hk, rfl, rfl, hc, hcut⟩ := hrel
    by_cases hlt : k < s.size
    · have hltz : (k : Int) < (s.size : Int) := by omega
      have hst := M.cutAt_step s.data.toList k c hlt hcut.out
      rw [M.at_of s k hlt] at hst
      by_cases a1 : s[k]'hlt = 47
      · have b1 : (((s[k]'hlt).toNat : Int) == 47) = true := by rw [a1]; decide
        have b2 : Hid (s[k]'hlt = 47) := a1
        by_cases a2 : c = s.size
        · have a3 : ((c : Int) == (s.size : Int)) = true := by simp [a2]
          rw [if_pos ⟨a1, a2⟩] at hst
          have Hst := Lib.hid hst
          clear a1 hst a2
          go_wp2_with fail
          go_round
          case rel => exact ⟨k + 1, k, by omega, by go_num, by go_num, by omega, Hst.out⟩
          case measure => simp [intOf]; omega
        · have a3 : ((c : Int) == (s.size : Int)) = false := by simp; omega
          rw [if_neg (fun x => a2 x.2)] at hst
          have Hst := Lib.hid hst
          clear a1 hst a2
          go_wp2_with fail
          go_round
          case rel => exact ⟨k + 1, c, by omega, by go_num, by go_num, by omega, Hst.out⟩
          case measure => simp [intOf]; omega
      · have b1 : (((s[k]'hlt).toNat : Int) == 47) = false := by
          rw [Bool.eq_false_iff]; intro x; apply a1
          have e : (47 : UInt8).toNat = 47 := by decide
          have x2 : (s[k]'hlt).toNat = 47 := by simp at x; omega
          exact UInt8.toNat_inj.1 (x2.trans e.symm)
        rw [if_neg (fun x => a1 x.1)] at hst
        have Hst := Lib.hid hst
        clear a1 hst
        go_wp2_with fail
        go_round
        case rel => exact ⟨k + 1, c, by omega, by go_num, by go_num, by omega, Hst.out⟩
        case measure => simp [intOf]; omega
    · obtain rfl : k = s.size := by omega
      have S0 : Hid (Slot3 w (w.alloc (.cells #[.int .i64 0, .int .i64 0, .int .i64 0] 29))) := Slot3.start w
      generalize w.alloc (.cells #[.int .i64 0, .int .i64 0, .int .i64 0] 29) = w0 at *
      rcases hcut.out with ⟨h1, h2⟩ | ⟨h1, h2, h3, h4⟩
      · obtain rfl : c = s.size := h2
        rw [List.take_of_length_le (show s.data.toList.length ≤ s.size from Nat.le_refl _)] at h1
        have H1 := Lib.hid h1
        have hex : s.extract 0 s.size = s := by
          apply ByteArray.ext; apply Array.toList_inj.1
          rw [Lib.extract_data, List.drop_zero, List.take_of_length_le (show s.data.toList.length ≤ s.size - 0 from Nat.le_refl _)]
        clear h1 hcut
        go_wp2_with fail
        refine (num_any s _).mono ?_
        rintro e w1 ⟨⟨n, b, hN, rfl⟩, hb⟩
        have S1 : Hid (Slot3 w w1) := S0.out.next hb
        have HF : Hid (M.Finds s.data.toList n 1 b) := M.finds1 H1.out hN
        clear hb hex hN S0
        cases b
        · skip
          obtain ⟨s0, s1, s2, f0, f1, f2, hz2, hB⟩ := kept3 S1.out
          obtain ⟨rd0, rd1, rd2⟩ := read_set3a s0 s1 s2 (.int .i64 0) (.int .i64 0) (.int .i64 3) (.cells #[.int .i64 n, .int .i64 1] 24)
          go_wp2_with fail
          exact bodyPost_ret (v := .agg #[.int .i64 0, .int .i64 0, .int .i64 3]) (by simp [results, Tryd.results19, go_sem, rd0, rd1, rd2]) rfl ⟨⟨0, 0, 3, M.read_no HF.out (Or.inl rfl), rfl⟩, (below_set3 hB.out (by omega) _ _ _).alloc (by simp; omega) _⟩
        · go_wp2_with fail
          refine (specText_any n 1 _).mono ?_
          rintro e w9 ⟨rfl, hb⟩
          have S9 : Hid (Slot3 w w9) := S1.out.next (((Below.refl _ _).alloc (Nat.le_refl _) _).trans (hb.mono (by simp)))
          obtain ⟨c0, c1, hz1, hB1⟩ := one_later (hb.mono (by simp))
          clear hb hB1
          obtain ⟨s0, s1, s2, f0, f1, f2, hz2, hB⟩ := kept3 S9.out
          by_cases hq : (⟨(M.textL n 1).toArray⟩ : ByteArray) = s
          · have Hq : Hid (M.textL n 1 = s.data.toList) := by show _ = _; rw [← hq]
            rw [hq]
            clear hq
            by_cases he : s.size = 0
            · obtain rfl : s = ⟨#[]⟩ := by apply ByteArray.ext; exact Array.eq_empty_of_size_eq_zero he
              go_wp2_with fail
              exact bodyPost_ret (v := .agg #[.int .i64 0, .int .i64 0, .int .i64 3]) (by simp [results, Tryd.results19, go_sem, s0, s1, s2]) rfl ⟨⟨0, 0, 3, M.read_no HF.out (Or.inr (Or.inr rfl)), rfl⟩, below_set3 hB.out (by omega) _ _ _⟩
            · have h1 : s.toList.isEmpty = false := str_empty he
              have HE : Hid (s.data.toList ≠ []) := fun x => he (congrArg List.length x)
              clear he
              go_wp2_with fail
              exact bodyPost_ret (v := .agg #[.int .i64 n, .int .i64 1, .int .i64 0]) (by simp [results, Tryd.results19, go_sem, s0, s1, s2]) rfl ⟨⟨n, 1, 0, M.read_yes Hq.out HE.out, rfl⟩, below_set3 hB.out (by omega) _ _ _⟩
          · have Hq : Hid (M.textL n 1 ≠ s.data.toList) := by
              show _ ≠ _
              intro e; apply hq; apply ByteArray.ext; show (M.textL n 1).toArray = s.data; rw [e]
            generalize (⟨(M.textL n 1).toArray⟩ : ByteArray) = T at *
            have h1 : (T.toList == s.toList) = false := str_ne hq
            clear hq
            go_wp2_with fail
            exact bodyPost_ret (v := .agg #[.int .i64 0, .int .i64 0, .int .i64 3]) (by simp [results, Tryd.results19, go_sem, s0, s1, s2]) rfl ⟨⟨0, 0, 3, M.read_no HF.out (Or.inr (Or.inl Hq.out)), rfl⟩, below_set3 hB.out (by omega) _ _ _⟩
      · have H3 := Lib.hid h3
        have H4 := Lib.hid h4
        have hcz : (c : Int) < (s.size : Int) := by have : s.data.toList.length = s.size := rfl; omega
        obtain ⟨A, hA⟩ : ∃ A : ByteArray, A = s.extract 0 c := ⟨_, rfl⟩
        obtain ⟨B, hB⟩ : ∃ B : ByteArray, B = s.extract (c + 1) s.size := ⟨_, rfl⟩
        have eA : A.data.toList = s.data.toList.take c := by rw [hA, Lib.extract_data]; simp
        have eB : B.data.toList = s.data.toList.drop (c + 1) := by rw [hB, Lib.extract_data, List.take_of_length_le (by simp)]
        have EA := Lib.hid eA
        have EB := Lib.hid eB
        clear h1 h2 h3 h4 hcut eA eB
        go_wp2_with fail
        rw [← hA]
        refine (num_any A _).mono ?_
        rintro e w1 ⟨⟨n, b, hN, rfl⟩, hb⟩
        have S1 : Hid (Slot3 w w1) := S0.out.next hb
        have HN1 := Lib.hid hN
        clear hb hN S0 hA
        go_wp2_with fail
        rw [← hB]
        refine (num_any B _).mono ?_
        rintro e w2 ⟨⟨d, y, hN, rfl⟩, hb⟩
        have S2 : Hid (Slot3 w w2) := S1.out.next hb
        have HF : Hid (M.Finds s.data.toList n d (b && y)) := M.finds2 H3.out H4.out (by rw [← EA.out]; exact HN1.out) (by rw [← EB.out]; exact hN)
        clear hb hN S1 hB HN1
        cases b
        · rw [Bool.false_and] at HF
          obtain ⟨s0, s1, s2, f0, f1, f2, hz2, hB⟩ := kept3 S2.out
          obtain ⟨rd0, rd1, rd2⟩ := read_set3a s0 s1 s2 (.int .i64 0) (.int .i64 0) (.int .i64 3) (.cells #[.int .i64 n, .int .i64 d] 24)
          go_wp2_with fail
          exact bodyPost_ret (v := .agg #[.int .i64 0, .int .i64 0, .int .i64 3]) (by simp [results, Tryd.results19, go_sem, rd0, rd1, rd2]) rfl ⟨⟨0, 0, 3, M.read_no HF.out (Or.inl rfl), rfl⟩, (below_set3 hB.out (by omega) _ _ _).alloc (by simp; omega) _⟩
        · cases y
          · rw [Bool.and_false] at HF
            obtain ⟨s0, s1, s2, f0, f1, f2, hz2, hB⟩ := kept3 S2.out
            obtain ⟨rd0, rd1, rd2⟩ := read_set3a s0 s1 s2 (.int .i64 0) (.int .i64 0) (.int .i64 3) (.cells #[.int .i64 n, .int .i64 d] 24)
            go_wp2_with fail
            exact bodyPost_ret (v := .agg #[.int .i64 0, .int .i64 0, .int .i64 3]) (by simp [results, Tryd.results19, go_sem, rd0, rd1, rd2]) rfl ⟨⟨0, 0, 3, M.read_no HF.out (Or.inl rfl), rfl⟩, (below_set3 hB.out (by omega) _ _ _).alloc (by simp; omega) _⟩
          · rw [Bool.and_true] at HF
            go_wp2_with fail
            refine (specText_any n d _).mono ?_
            rintro e w9 ⟨rfl, hb⟩
            have S9 : Hid (Slot3 w w9) := S2.out.next (((Below.refl _ _).alloc (Nat.le_refl _) _).trans (hb.mono (by simp)))
            obtain ⟨c0, c1, hz1, hB1⟩ := one_later (hb.mono (by simp))
            clear hb hB1
            obtain ⟨s0, s1, s2, f0, f1, f2, hz2, hB⟩ := kept3 S9.out
            by_cases hq : (⟨(M.textL n d).toArray⟩ : ByteArray) = s
            · have Hq : Hid (M.textL n d = s.data.toList) := by show _ = _; rw [← hq]
              rw [hq]
              clear hq
              by_cases he : s.size = 0
              · exfalso; omega
              · have h1 : s.toList.isEmpty = false := str_empty he
                have HE : Hid (s.data.toList ≠ []) := fun x => he (congrArg List.length x)
                clear he
                go_wp2_with fail
                exact bodyPost_ret (v := .agg #[.int .i64 n, .int .i64 d, .int .i64 0]) (by simp [results, Tryd.results19, go_sem, s0, s1, s2]) rfl ⟨⟨n, d, 0, M.read_yes Hq.out HE.out, rfl⟩, below_set3 hB.out (by omega) _ _ _⟩
            · have Hq : Hid (M.textL n d ≠ s.data.toList) := by
                show _ ≠ _
                intro e; apply hq; apply ByteArray.ext; show (M.textL n d).toArray = s.data; rw [e]
              generalize (⟨(M.textL n d).toArray⟩ : ByteArray) = T at *
              have h1 : (T.toList == s.toList) = false := str_ne hq
              clear hq
              go_wp2_with fail
              exact bodyPost_ret (v := .agg #[.int .i64 0, .int .i64 0, .int .i64 3]) (by simp [results, Tryd.results19, go_sem, s0, s1, s2]) rfl ⟨⟨0, 0, 3, M.read_no HF.out (Or.inr (Or.inl Hq.out)), rfl⟩, below_set3 hB.out (by omega) _ _ _⟩
end Go.Proofs.YtemmmhkjjcmcmaaDoor
