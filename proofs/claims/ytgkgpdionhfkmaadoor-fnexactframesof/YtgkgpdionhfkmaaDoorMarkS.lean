/-
  The laws' marks of a list of frames, and how they are found again.
-/
import Derived.Test.YtgkgpdionhfkmaaDoorMarkFr
namespace Go.Proofs.YtgkgpdionhfkmaaDoor
open Go.RowKit Go.Deep

/-- One block alone may have changed. -/
structure Chg1 (g : Nat) (w w' : World) : Prop where
  os : w'.os = w.os
  tape : w'.tape = w.tape
  output : w'.output = w.output
  size : w.heap.size ≤ w'.heap.size
  block : ∀ k, k < w.heap.size → k ≠ g → w'.heap[k]? = w.heap[k]?
theorem Chg1.refl (g : Nat) (w : World) : Chg1 g w w := ⟨rfl, rfl, rfl, Nat.le_refl _, fun _ _ _ => rfl⟩
theorem Chg1.set {g : Nat} {w w' : World} (h : Chg1 g w w') (i : Nat) (x : Value) : Chg1 g w (w'.setCell ⟨g, i, none⟩ x) :=
  ⟨h.os, h.tape, h.output, by simpa using h.size, fun k hk hne => (blk_setCell_other _ _ _ _ (by show k ≠ g; exact hne)).trans (h.block k hk hne)⟩
theorem Chg1.below {g : Nat} {w w' w2 : World} (h : Chg1 g w w') (hb : Below w'.heap.size w' w2) : Chg1 g w w2 :=
  ⟨hb.os.trans h.os, hb.tape.trans h.tape, hb.output.trans h.output, Nat.le_trans h.size hb.size, fun k hk hne => (hb.block k (Nat.lt_of_lt_of_le hk h.size)).trans (h.block k hk hne)⟩
/-- The places up to n are marked from k on. -/
def Marked (k n : Nat) (f : Nat → Value) : Prop := ∀ i, i < n → f (i * 4) = .int .i64 ((k + i * 4 : Nat) : Int) ∧ f (i * 4 + 1) = .int .i64 ((k + i * 4 + 1 : Nat) : Int) ∧ f (i * 4 + 2) = .int .i64 ((k + i * 4 + 2 : Nat) : Int) ∧ f (i * 4 + 3) = .string (markB (k + i * 4 + 3))
theorem Marked.next {k n : Nat} {f : Nat → Value} (h : Marked k n f) : Marked k (n + 1) (fun j => if j = n * 4 + 3 then .string (markB (k + n * 4 + 3)) else if j = n * 4 + 2 then .int .i64 ((k + n * 4 + 2 : Nat) : Int) else if j = n * 4 + 1 then .int .i64 ((k + n * 4 + 1 : Nat) : Int) else if j = n * 4 then .int .i64 ((k + n * 4 : Nat) : Int) else f j) := by
  intro i hi
  by_cases e : i = n
  · subst e
    refine ⟨?_, ?_, ?_, ?_⟩ <;> simp
  · have hl : i < n := by omega
    obtain ⟨h1, h2, h3, h4⟩ := h i hl
    refine ⟨?_, ?_, ?_, ?_⟩
    · show (if i * 4 = n * 4 + 3 then _ else if i * 4 = n * 4 + 2 then _ else if i * 4 = n * 4 + 1 then _ else if i * 4 = n * 4 then _ else f (i * 4)) = _
      rw [if_neg (by omega), if_neg (by omega), if_neg (by omega), if_neg (by omega)]; exact h1
    · show (if i * 4 + 1 = n * 4 + 3 then _ else if i * 4 + 1 = n * 4 + 2 then _ else if i * 4 + 1 = n * 4 + 1 then _ else if i * 4 + 1 = n * 4 then _ else f (i * 4 + 1)) = _
      rw [if_neg (by omega), if_neg (by omega), if_neg (by omega), if_neg (by omega)]; exact h2
    · show (if i * 4 + 2 = n * 4 + 3 then _ else if i * 4 + 2 = n * 4 + 2 then _ else if i * 4 + 2 = n * 4 + 1 then _ else if i * 4 + 2 = n * 4 then _ else f (i * 4 + 2)) = _
      rw [if_neg (by omega), if_neg (by omega), if_neg (by omega), if_neg (by omega)]; exact h3
    · show (if i * 4 + 3 = n * 4 + 3 then _ else if i * 4 + 3 = n * 4 + 2 then _ else if i * 4 + 3 = n * 4 + 1 then _ else if i * 4 + 3 = n * 4 then _ else f (i * 4 + 3)) = _
      rw [if_neg (by omega), if_neg (by omega), if_neg (by omega), if_neg (by omega)]; exact h4

set_option linter.unusedSimpArgs false in
set_option maxRecDepth 100000 in
set_option maxHeartbeats 2000000 in
theorem markFrameS_any (g n cap k : Nat) (f : Nat → Value) (w : World) (h : w.rowIs g 27 (cap * 4) f) (hn : n ≤ cap) (hn2 : n ≤ 1048576) (hk : k ≤ 1048576) :
    Calls Tryd.prog 30 #[.slice (some ⟨g, 0, none⟩) n cap, .int .i64 k] w fun e w' => e = .returned (.int .i64 ((k + n * 4 : Nat) : Int)) ∧ (∃ f', w'.rowIs g 27 (cap * 4) f' ∧ Marked k n f') ∧ Chg1 g w w' := by
  have H := Lib.hid h
  clear h
  go_enter Tryd.func30, Tryd.ntmps30
  go_wp2_with fail
  go_loopw [1, 5] (fun kv iv wr => ∃ (i : Nat) (f' : Nat → Value), i ≤ n ∧ kv = .int .i64 ((k + i * 4 : Nat) : Int) ∧ iv = .int .i64 i ∧ Hid (wr.rowIs g 27 (cap * 4) f') ∧ Hid (Marked k i f') ∧ Hid (Chg1 g w wr)) (fun _ iv _ => n - (intOf iv).toNat)
  case atStart => exact ⟨0, f, Nat.zero_le _, by simp, rfl, H, fun _ hi => absurd hi (Nat.not_lt_zero _), Chg1.refl _ _⟩
  case round =>
    obtain ⟨i, f', hi, rfl, rfl, hR, hM, hC⟩ := hrel
    by_cases hlt : i < n
    · have hltz : (i : Int) < (n : Int) := by omega
      have c0 := hR.out.cell (i := i * 4) (by omega)
      have c1 := hR.out.cell (i := i * 4 + 1) (by omega)
      have c2 := hR.out.cell (i := i * 4 + 2) (by omega)
      have c3 := hR.out.cell (i := i * 4 + 3) (by omega)
      have g0 := hR.out.frozen (i * 4)
      have g1 := hR.out.frozen (i * 4 + 1)
      have g2 := hR.out.frozen (i * 4 + 2)
      have zg : g < wr.heap.size := hR.out.lt
      obtain ⟨K, hK⟩ : ∃ K : Nat, K = k + i * 4 := ⟨_, rfl⟩
      rw [← hK]
      have hK2 : K ≤ 6291456 := by omega
      have HKE : Hid (K = k + i * 4) := hK
      have e3 : ((K + 3 : Nat) : Int) = (K : Int) + 1 + 1 + 1 := by omega
      have HT := Lib.hid (fun wx => markText_any (K + 3) (by omega) wx)
      rw [e3] at HT
      have hMn := Lib.hid hM.out.next
      clear hK e3
      have HR3 : Hid ((((wr.setCell ⟨g, i * 4, none⟩ (.int .i64 K)).setCell ⟨g, i * 4 + 1, none⟩ (.int .i64 ((K : Int) + 1))).setCell ⟨g, i * 4 + 2, none⟩ (.int .i64 ((K : Int) + 1 + 1))).rowIs g 27 (cap * 4) _) := ((hR.out.set (i * 4) (.int .i64 K)).set (i * 4 + 1) (.int .i64 ((K : Int) + 1))).set (i * 4 + 2) (.int .i64 ((K : Int) + 1 + 1))
      have HC3 : Hid (Chg1 g w (((wr.setCell ⟨g, i * 4, none⟩ (.int .i64 K)).setCell ⟨g, i * 4 + 1, none⟩ (.int .i64 ((K : Int) + 1))).setCell ⟨g, i * 4 + 2, none⟩ (.int .i64 ((K : Int) + 1 + 1)))) := ((hC.out.set (i * 4) (.int .i64 K)).set (i * 4 + 1) (.int .i64 ((K : Int) + 1))).set (i * 4 + 2) (.int .i64 ((K : Int) + 1 + 1))
      clear hC hM
      go_wp2_with fail
      refine (HT.out _).mono ?_
      rintro e w2 ⟨rfl, hb⟩
      have R4 := HR3.out.of_block (hb.block g (by simpa using zg))
      have C4 : Hid (Chg1 g w (w2.setCell ⟨g, i * 4 + 3, none⟩ (.string (markB (K + 3))))) := (HC3.out.below hb).set (i * 4 + 3) _
      have q3 := R4.cell (i := i * 4 + 3) (by omega)
      have q4 := R4.frozen (i * 4 + 3)
      have R5 := Lib.hid (R4.set (i * 4 + 3) (.string (markB (K + 3))))
      have zg2 : g < w2.heap.size := R4.lt
      clear R4 hb HR3 HC3 HT hR c0 c1 c2 c3 g0 g1 g2
      go_wp2_with fail
      go_roundw
      case rel =>
        refine ⟨i + 1, _, by omega, ?_, by go_num, ?_, hMn, C4⟩
        · have := HKE.out
          congr 1; omega
        · refine R5.out.congr (fun j hj => ?_)
          have := HKE.out
          subst this
          by_cases j3 : j = i * 4 + 3
          · subst j3; simp
          · by_cases j2 : j = i * 4 + 2
            · subst j2; simp; omega
            · by_cases j1 : j = i * 4 + 1
              · subst j1; simp
              · by_cases j0 : j = i * 4
                · subst j0; simp
                · simp [j0, j1, j2, j3]
      case measure => simp [intOf]; omega
    · obtain rfl : i = n := by omega
      go_wp2_with fail
      go_ret
      exact ⟨rfl, ⟨f', hR.out, hM.out⟩, hC.out⟩
end Go.Proofs.YtgkgpdionhfkmaaDoor
