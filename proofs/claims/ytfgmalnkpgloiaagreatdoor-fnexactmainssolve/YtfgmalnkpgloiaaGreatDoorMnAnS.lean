/-
  The start of mains: both sides answer so.
-/
import Derived.Test.YtfgmalnkpgloiaaGreatDoorMnAn
import Derived.Test.YtfgmalnkpgloiaaGreatDoorMnTl
namespace Go.Proofs.YtfgmalnkpgloiaaGreatDoor
open Go.RowKit Go.Deep

theorem outAt_total (s : Nat → Bool) : ∀ n, ∃ r, Mn.OutAt s n r
  | 0 => ⟨-1, Or.inr ⟨rfl, fun j hj => absurd hj (Nat.not_lt_zero _)⟩⟩
  | n + 1 => by
    obtain ⟨r, h⟩ := outAt_total s n
    rcases h with ⟨i, h1, h2, h3, h4⟩ | ⟨h1, h2⟩
    · exact ⟨r, Or.inl ⟨i, by omega, h2, h3, h4⟩⟩
    · cases e : s n with
      | true =>
        refine ⟨-1, Or.inr ⟨rfl, fun j hj => ?_⟩⟩
        by_cases ej : j = n
        · subst ej; exact e
        · exact h2 j (by omega)
      | false => exact ⟨n, Or.inl ⟨n, by omega, rfl, e, h2⟩⟩
theorem wrongAt_total (m : Mn.Mains) (f : Nat → Int) : ∃ r, Mn.WrongAt m f r := by
  have key : ∀ n, n ≤ m.pn → (∃ i : Nat, i < n ∧ ¬ Mn.okF m f i ∧ ∀ j, j < i → Mn.okF m f j) ∨ ∀ j, j < n → Mn.okF m f j := by
    intro n
    induction n with
    | zero => intro _; exact Or.inr (fun j hj => absurd hj (Nat.not_lt_zero _))
    | succ n ih =>
      intro hn
      rcases ih (by omega) with ⟨i, h1, h2, h3⟩ | h
      · exact Or.inl ⟨i, by omega, h2, h3⟩
      · by_cases e : Mn.okF m f n
        · refine Or.inr (fun j hj => ?_)
          by_cases ej : j = n
          · subst ej; exact e
          · exact h j (by omega)
        · exact Or.inl ⟨n, by omega, e, h⟩
  rcases key m.pn (Nat.le_refl _) with ⟨i, h1, h2, h3⟩ | h
  · exact ⟨i, Or.inl ⟨i, h1, rfl, h2, h3⟩⟩
  · exact ⟨-1, Or.inr ⟨rfl, h⟩⟩
theorem start_total (m : Mn.Mains) : ∃ c a, Mn.Start m c a := by
  by_cases h : Mn.Right m
  · obtain ⟨r, hr⟩ := outAt_total (Mn.fin m).1 (Mn.nn m)
    by_cases h0 : 0 ≤ r
    · exact ⟨4, r, .none r h hr h0⟩
    · have hr1 : Mn.OutAt (Mn.fin m).1 (Mn.nn m) (-1) := by
        rcases hr with ⟨i, _, h2, _⟩ | ⟨h1, h2⟩
        · omega
        · exact Or.inr ⟨rfl, h2⟩
      obtain ⟨z, hz⟩ := wrongAt_total m (Mn.flows m)
      by_cases hz0 : 0 ≤ z
      · exact ⟨5, z, .over z h hr1 hz hz0⟩
      · have hz1 : Mn.WrongAt m (Mn.flows m) (-1) := by
          rcases hz with ⟨i, _, h2, _⟩ | ⟨h1, h2⟩
          · omega
          · exact Or.inr ⟨rfl, h2⟩
        exact ⟨0, 0, .ok h hr1 hz1⟩
  · exact ⟨1, 0, .form h⟩
theorem Mn.Start.right {m : Mn.Mains} {a : Int} (h : Mn.Start m 0 a) : Mn.Right m := by cases h with | ok h => exact h
/-- A function that answers mains so. -/
def AnsS (fn : Nat) (m : Mn.Mains) (d : MoD) : Prop := ∀ (pa : Option Addr) (pk : Nat) (la : Option Addr) (lk : Nat) (wa : Option Addr) (wk : Nat) (w : World), MnAt m pa la wa w → Et w → Calls Tryz.prog fn #[mnV m pa pk la lk wa wk] w fun e w' => MoAns d w.heap.size e w' ∧ Below w.heap.size w w'
def stD (m : Mn.Mains) (c a : Int) : MoD := ⟨if c = 0 then m.pn else 0, Mn.flows m, 0, fun _ => 0, 0, 0, a, c⟩
theorem ss_ans {m : Mn.Mains} {B : Nat} {e : Ending} {W : World} {c a : Int} (hs : Mn.Start m c a) (h : SsEnd m B e W) : MoAns (stD m c a) B e W := by
  rcases h with ⟨c', a', h1, h2, rfl⟩ | ⟨gf, h1, rfl, h3, h4⟩
  · obtain ⟨rfl, rfl⟩ := hs.one h1
    refine ⟨none, 0, none, 0, ?_, ?_⟩
    · simp [stD, h2]
    · simp only [stD, h2, if_false]
      exact ⟨Or.inl ⟨rfl, rfl, rfl⟩, Or.inl ⟨rfl, rfl, rfl⟩, fun k e => by cases e⟩
  · obtain ⟨rfl, rfl⟩ := hs.one h1
    refine ⟨some ⟨gf, 0, none⟩, m.pn, none, 0, ?_, ?_⟩
    · simp [stD]
    · simp only [stD, if_true]
      exact ⟨Or.inr ⟨gf, rfl, h4, h3⟩, Or.inl ⟨rfl, rfl, rfl⟩, fun k _ e => by cases e⟩
theorem mainsStart_both (m : Mn.Mains) (hs : MnSmall m) : ∃ d : MoD, d.fn ≤ 1048576 ∧ d.hn ≤ 1048576 ∧ AnsS 32 m d ∧ AnsS 12 m d := by
  obtain ⟨c, a, h⟩ := start_total m
  refine ⟨stD m c a, ?_, Nat.zero_le _, ?_, ?_⟩
  · have := hs.1
    unfold stD
    simp only
    split <;> omega
  · intro pa pk la lk wa wk w h1 _
    exact (specStart_any m pa pk la lk wa wk w h1 hs).mono (fun e w' ⟨q, hb⟩ => ⟨ss_ans h q, hb⟩)
  · intro pa pk la lk wa wk w h1 h2
    exact (implStart_any m pa pk la lk wa wk w h1 h2).mono (fun e w' ⟨q, hb⟩ => ⟨ss_ans h q, hb⟩)
end Go.Proofs.YtfgmalnkpgloiaaGreatDoor
