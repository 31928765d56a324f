/-
  A round of mains: both sides answer so.
-/
import Derived.Test.YtfgmalnkpgloiaaGreatDoorMnAn
import Derived.Test.YtfgmalnkpgloiaaGreatDoorMnP9
namespace Go.Proofs.YtfgmalnkpgloiaaGreatDoor
open Go.RowKit Go.Deep
def AnsN (fn : Nat) (m : Mn.Mains) (xn : Nat) (xf : Nat → Int) (d : MoD) : Prop := ∀ (pa : Option Addr) (pk : Nat) (la : Option Addr) (lk : Nat) (wa : Option Addr) (wk : Nat) (xb xk : Nat) (w : World), MnAt m pa la wa w → (∀ i, i < xn → w.cell? ⟨xb, i, none⟩ = some (.int .i64 (xf i))) → Et w → Calls Tryz.prog fn #[mnV m pa pk la lk wa wk, .slice (some ⟨xb, 0, none⟩) xn xk] w fun e w' => MoAns d w.heap.size e w' ∧ Below w.heap.size w w'
def noD (c : Int) : MoD := ⟨0, fun _ => 0, 0, fun _ => 0, 0, 0, 0, c⟩
def rdD (m : Mn.Mains) (f : Nat → Int) : MoD := ⟨m.pn, Mn.round m f, 0, fun _ => 0, Mn.rest m (Mn.round m f), 0, 0, 0⟩
theorem no_ans (c : Int) (B : Nat) (W : World) : MoAns (noD c) B (.returned (moV none 0 0 none 0 0 0 0 0 c)) W := ⟨none, 0, none, 0, rfl, Or.inl ⟨rfl, rfl, rfl⟩, Or.inl ⟨rfl, rfl, rfl⟩, fun k e => by cases e⟩
theorem rd_ans {m : Mn.Mains} {xn : Nat} {f : Nat → Int} : ∃ d : MoD, (d.fn ≤ m.pn ∧ d.hn = 0) ∧ ∀ B e W, RdEnd m xn f B e W → MoAns d B e W := by
  by_cases h4 : 400 < xn
  · refine ⟨noD 2, ⟨Nat.zero_le _, rfl⟩, fun B e W h => ?_⟩
    rcases h with ⟨_, rfl⟩ | ⟨h1, _, _⟩ | ⟨a, c, h1, _⟩
    · exact no_ans 2 B W
    · omega
    · omega
  · by_cases hq : Mn.Right m ∧ xn = m.pn ∧ Mn.AllOk m f
    · refine ⟨rdD m f, ⟨Nat.le_refl _, rfl⟩, fun B e W h => ?_⟩
      rcases h with ⟨h1, _⟩ | ⟨_, h2, _⟩ | ⟨a, c, _, _, _, _, rfl, how⟩
      · omega
      · exact absurd hq h2
      · exact ⟨a, c, none, 0, rfl, how, Or.inl ⟨rfl, rfl, rfl⟩, fun k _ e => by cases e⟩
    · refine ⟨noD 1, ⟨Nat.zero_le _, rfl⟩, fun B e W h => ?_⟩
      rcases h with ⟨h1, _⟩ | ⟨_, _, rfl⟩ | ⟨a, c, _, h2, h3, h5, _, _⟩
      · omega
      · exact no_ans 1 B W
      · exact absurd ⟨h2, h3, h5⟩ hq
theorem mainsRound_both (m : Mn.Mains) (hs : MnSmall m) (xn : Nat) (xf : Nat → Int) (hxs : xn ≤ 1048576) : ∃ d : MoD, d.fn ≤ 1048576 ∧ d.hn ≤ 1048576 ∧ AnsN 18 m xn xf d ∧ AnsN 10 m xn xf d := by
  obtain ⟨d, ⟨h1, h2⟩, h3⟩ := rd_ans (m := m) (xn := xn) (f := xf)
  refine ⟨d, ?_, by omega, ?_, ?_⟩
  · have := hs.1
    omega
  · intro pa pk la lk wa wk xb xk w ha hx _
    exact (sround_any m pa pk la lk wa wk xb xn xk xf w ha hx hs hxs).mono (fun e w' ⟨q, hb⟩ => ⟨h3 _ _ _ q, hb⟩)
  · intro pa pk la lk wa wk xb xk w ha hx hg
    exact (implRound_any m pa pk la lk wa wk xb xn xk xf w ha hx hxs hg).mono (fun e w' ⟨q, hb⟩ => ⟨h3 _ _ _ q, hb⟩)
end Go.Proofs.YtfgmalnkpgloiaaGreatDoor
