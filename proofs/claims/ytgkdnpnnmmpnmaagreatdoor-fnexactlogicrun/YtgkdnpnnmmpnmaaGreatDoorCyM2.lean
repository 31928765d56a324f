/-
  Cycles: the truths of the kinds of blocks, one by one.
-/
import Derived.Test.YtgkdnpnnmmpnmaaGreatDoorCyMem
namespace Go.Proofs.YtgkdnpnnmmpnmaaGreatDoor
open Go.RowKit Go.Deep

namespace Cy
section
variable {b : Pg.Bk} {i : Nat} {T0 C0 T : Nat → Int} {x : Int}
theorem vl_1 (h : b.kind = 1) : vl b i T0 C0 T x = x := by unfold vl; rw [h]; rfl
theorem vl_2 (h : b.kind = 2) : vl b i T0 C0 T x = min (T b.a.toNat) (T b.b.toNat) := by unfold vl; rw [h]; rfl
theorem vl_3 (h : b.kind = 3) : vl b i T0 C0 T x = max (T b.a.toNat) (T b.b.toNat) := by unfold vl; rw [h]; rfl
theorem vl_4 (h : b.kind = 4) : vl b i T0 C0 T x = 1 - T b.a.toNat := by unfold vl; rw [h]; rfl
theorem vl_5 (h : b.kind = 5) : vl b i T0 C0 T x = T0 b.a.toNat := by unfold vl; rw [h]; rfl
theorem vl_6 (h : b.kind = 6) : vl b i T0 C0 T x = min (1 - T b.b.toNat) (max (T b.a.toNat) (T0 i)) := by unfold vl; rw [h]; rfl
theorem vl_7 (h : b.kind = 7) : vl b i T0 C0 T x = if b.b < ct b i C0 T then 1 else 0 := by unfold vl; rw [h]; rfl
theorem ct_7 (h : b.kind = 7) (hT : T b.a.toNat = 1) : ct b i C0 T = min 101 (C0 i + 1) := by unfold ct; rw [if_pos ⟨h, hT⟩]
theorem ct_70 (hT : T b.a.toNat ≠ 1) : ct b i C0 T = 0 := by unfold ct; rw [if_neg (fun q => hT q.2)]
end
theorem upd_same {f : Nat → Int} {i : Nat} {z : Int} (h : f i = z) : upd f i z = f := by
  funext j
  unfold upd
  by_cases e : j = i
  · rw [if_pos e, e, h]
  · rw [if_neg e]
theorem run_T1 (p : Pg.Prog) (s : Lg) (I : Nat → Int) (i : Nat) : (run p s I (i + 1)).T = updI (run p s I i).T i (vl (p.B i) i s.T s.C (run p s I i).T (I (Pg.insTo p.B i))) := rfl
theorem run_C1 (p : Pg.Prog) (s : Lg) (I : Nat → Int) (i : Nat) : (run p s I (i + 1)).C = updI (run p s I i).C i (ct (p.B i) i s.C (run p s I i).T) := rfl
theorem run_C0 {p : Pg.Prog} {s : Lg} {I : Nat → Int} {i : Nat} (h : ct (p.B i) i s.C (run p s I i).T = 0) : (run p s I (i + 1)).C = (run p s I i).C := by
  show upd _ i _ = _
  rw [h]
  exact upd_same (run_C_ge p s I i i (Nat.le_refl _))
theorem and_bit {x y : Int} (hx : 0 ≤ x ∧ x ≤ 1) (hy : 0 ≤ y ∧ y ≤ 1) : bits BinOp.and IntKind.i64 x y = min x y := by
  have h1 : x = 0 ∨ x = 1 := by omega
  have h2 : y = 0 ∨ y = 1 := by omega
  rcases h1 with rfl | rfl <;> rcases h2 with rfl | rfl <;> rfl
theorem or_bit {x y : Int} (hx : 0 ≤ x ∧ x ≤ 1) (hy : 0 ≤ y ∧ y ≤ 1) : bits BinOp.or IntKind.i64 x y = max x y := by
  have h1 : x = 0 ∨ x = 1 := by omega
  have h2 : y = 0 ∨ y = 1 := by omega
  rcases h1 with rfl | rfl <;> rcases h2 with rfl | rfl <;> rfl
/-- The places that a block of this kind looks at. -/
theorem look_a {b : Pg.Bk} {i n : Nat} (h : Pg.PartsOk b i n) (hk : b.kind = 2 ∨ b.kind = 3 ∨ b.kind = 4 ∨ b.kind = 6 ∨ b.kind = 7) : b.a.toNat < i ∧ ((b.a.toNat : Nat) : Int) = b.a := by
  rcases h with ⟨k, _⟩ | ⟨k, ha, hb⟩ | ⟨k, ha, _⟩ | ⟨k, ha, _⟩ | ⟨k, ha, _⟩
  · omega
  · exact ahead_lt ha
  · exact ahead_lt ha
  · omega
  · exact ahead_lt ha
theorem look_b {b : Pg.Bk} {i n : Nat} (h : Pg.PartsOk b i n) (hk : b.kind = 2 ∨ b.kind = 3 ∨ b.kind = 6) : b.b.toNat < i ∧ ((b.b.toNat : Nat) : Int) = b.b := by
  rcases h with ⟨k, _⟩ | ⟨k, ha, hb⟩ | ⟨k, ha, _⟩ | ⟨k, ha, _⟩ | ⟨k, ha, _⟩
  · omega
  · exact ahead_lt hb
  · omega
  · omega
  · omega
theorem look_p {b : Pg.Bk} {i n : Nat} (h : Pg.PartsOk b i n) (hk : b.kind = 5) : b.a.toNat < n ∧ ((b.a.toNat : Nat) : Int) = b.a := by
  rcases h with ⟨k, _⟩ | ⟨k, ha, hb⟩ | ⟨k, ha, _⟩ | ⟨k, ha, _⟩ | ⟨k, ha, _⟩
  · omega
  · omega
  · omega
  · exact ahead_lt ha
  · omega
end Cy
end Go.Proofs.YtgkdnpnnmmpnmaaGreatDoor
