/-
  Facts of ranges for notices.
-/
import Derived.Test.YtjfeipgeppegcaaNoFa
import Derived.Test.YtjfeipgeppegcaaNnBs
import Derived.Test.YtjfeipgeppegcaaNnIn
import Derived.Test.YtjfeipgeppegcaaNnI2
import Derived.Test.YtjfeipgeppegcaaNnS
namespace Go.Proofs.Ytjfeipgeppegcaa
open Go.RowKit Go.Deep

/-- A list of notices of one's own, wherever its parts lie within a range. -/
def NnB (lo hi g m : Nat) (bs : Nat → Ne) (W : World) : Prop := ∃ gs, NxM lo hi g m gs bs W
theorem NnB.lt {lo hi g m : Nat} {bs : Nat → Ne} {W : World} (h : NnB lo hi g m bs W) : g < W.heap.size := by obtain ⟨gs, h⟩ := h; exact h.lt
theorem NnB.below {lo hi g m : Nat} {bs : Nat → Ne} {W W' : World} (h : NnB lo hi g m bs W) (hb : Below W.heap.size W W') : NnB lo hi g m bs W' := by obtain ⟨gs, h⟩ := h; exact ⟨gs, h.below hb⟩
theorem fact_nn {W : World} {B g m : Nat} {bs : Nat → Ne} (h : NnB B W.heap.size g m bs W) (hl : B ≤ g) : Fact B W.heap.size (NnB B W.heap.size g m bs) W :=
  ⟨h, fun _ _ ⟨gs, a⟩ hk => ⟨gs, a.same hk⟩, Nat.le_trans hl (Nat.le_of_lt h.lt), Nat.le_refl _⟩
theorem notices_sz (a : Option Addr) (m cap : Nat) (bs : Nat → Ne) (w : World) (h : NnsIn a m bs w) (hm : m ≤ 9223372036854775807) :
    Calls Try.prog 17 #[.slice a m cap, .int .i64 1048576] w fun e w' => (∃ z : Int, e = .returned (.int .i64 z) ∧ (z < 0 ∨ ((0 ≤ z ∧ z ≤ 1048576) ∧ NSm m bs))) ∧ Below w.heap.size w w' :=
  (szNoticeS_any a m cap bs w h hm).mono (fun _ _ ⟨⟨z, h1, h2⟩, h3⟩ => ⟨⟨z, h1, by
    rcases h2 with h2 | ⟨⟨q1, q2⟩, q3⟩
    · exact Or.inl h2
    · exact Or.inr ⟨by omega, nsm_of q3⟩⟩, h3⟩)
theorem notices_conv (a : Option Addr) (m cap : Nat) (bs : Nat → Ne) (w : World) (h : NnsIn a m bs w) (hn : NSm m bs) :
    Calls Try.prog 19 #[.slice a m cap] w fun e w' => (∃ g, e = .returned (.slice (some ⟨g, 0, none⟩) m m) ∧ w.heap.size ≤ g ∧ NnB w.heap.size w'.heap.size g m bs w') ∧ Below w.heap.size w w' :=
  (toNoticeS_any a m cap bs w h hn.1 hn).mono (fun _ _ ⟨⟨gs, h1, h2⟩, h3⟩ => ⟨⟨_, h1, Nat.le_refl _, ⟨gs, h2⟩⟩, h3⟩)
theorem cntN_own (gs : Nat → Nat) (bs : Nat → Ne) (m : Nat) : cntN (ownN gs bs) m = cntN bs m := by
  induction m with
  | zero => rfl
  | succ m ih => simp only [cntN, ih]; rfl
theorem nsm_own {gs : Nat → Nat} {bs : Nat → Ne} {m : Nat} (h : NSm m bs) : NSm m (ownN gs bs) := ⟨h.1, by rw [cntN_own]; exact h.2.1, h.2.2⟩
theorem notices_eq {lo1 hi1 lo2 hi2 : Nat} (g1 g2 m : Nat) (bs : Nat → Ne) (w : World) (h1 : NnB lo1 hi1 g1 m bs w) (h2 : NnB lo2 hi2 g2 m bs w) (hn : NSm m bs) :
    Calls Try.prog 21 #[.slice (some ⟨g1, 0, none⟩) m m, .slice (some ⟨g2, 0, none⟩) m m] w fun e w' => e = .returned (.bool true) ∧ Below w.heap.size w w' := by
  obtain ⟨gs1, h1⟩ := h1
  obtain ⟨gs2, h2⟩ := h2
  exact eqNoticeS_same g1 g2 m m m (ownN gs1 bs) (ownN gs2 bs) w h1.cells h2.cells (fun _ _ => ⟨rfl, rfl, rfl, rfl, rfl⟩) hn.1 (nsm_own hn)
theorem notices_mark {lo hi : Nat} (g m : Nat) (bs : Nat → Ne) (w : World) (h : NnB lo hi g m bs w) (hn : NSm m bs) :
    Calls Try.prog 22 #[.slice (some ⟨g, 0, none⟩) m m, .int .i64 1] w fun e w' => e = .returned (.int .i64 ((1 + m * 3 + cntN bs m : Nat) : Int)) ∧ OnlyR lo hi w w' := by
  obtain ⟨gs, h⟩ := h
  exact markNoticeS_any lo hi g m m gs bs w h.toR h.up hn.2.1
theorem OnlyR.rng {lo hi : Nat} {w w' : World} (h : OnlyR lo hi w w') : Rng lo hi w w' := ⟨h.os, h.tape, h.output, h.size, h.block⟩
theorem implOpen_nn {lo hi : Nat} (g m : Nat) (bs : Nat → Ne) (w : World) (h : NnB lo hi g m bs w) (hn : NSm m bs) :
    Calls Try.prog 20 #[.slice (some ⟨g, 0, none⟩) m m] w fun e w' => NlEnd (No.opens m bs) w e w' ∧ Below w.heap.size w w' := by
  obtain ⟨gs, h⟩ := h
  exact implOpen_any _ m m (ownN gs bs) w h.at_ (nsm_own hn)
theorem specOpen_nn {lo hi : Nat} (g m : Nat) (bs : Nat → Ne) (w : World) (h : NnB lo hi g m bs w) (hn : NSm m bs) :
    Calls Try.prog 18 #[.slice (some ⟨g, 0, none⟩) m m] w fun e w' => NlEnd (No.opens m bs) w e w' ∧ Below w.heap.size w w' := by
  obtain ⟨gs, h⟩ := h
  exact specOpen_any _ m m (ownN gs bs) w h.at_ (nsm_own hn)
end Go.Proofs.Ytjfeipgeppegcaa
