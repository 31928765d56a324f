/-
  The contracts that the law of two drawn fractions meets, of two right fractions; the comparison of two answers.
-/
import Derived.Test.YtemmmhkjjcmcmaaDoorFracsMath
import Derived.Test.YtemmmhkjjcmcmaaDoorOpAdd
import Derived.Test.YtemmmhkjjcmcmaaDoorOpSub
import Derived.Test.YtemmmhkjjcmcmaaDoorOpMul
import Derived.Test.YtemmmhkjjcmcmaaDoorOpDiv
import Derived.Test.YtemmmhkjjcmcmaaDoorTwo
import Derived.Deep.RegionHeld3
namespace Go.Proofs.YtemmmhkjjcmcmaaDoor
open Go.RowKit

/-- A call with two fractions answers three numbers, and leaves what was there. -/
def Ans (f : Nat) (n1 d1 n2 d2 x y z : Int) (w : World) : Prop := ∀ wx, Hid (Below w.heap.size w wx) →
  Calls Tryd.prog f #[.agg #[.int .i64 n1, .int .i64 d1], .agg #[.int .i64 n2, .int .i64 d2]] wx fun e w' => e = .returned (.agg #[.int .i64 x, .int .i64 y, .int .i64 z]) ∧ Below wx.heap.size wx w'
def AnsI (f : Nat) (n1 d1 n2 d2 x : Int) (w : World) : Prop := ∀ wx, Hid (Below w.heap.size w wx) →
  Calls Tryd.prog f #[.agg #[.int .i64 n1, .int .i64 d1], .agg #[.int .i64 n2, .int .i64 d2]] wx fun e w' => e = .returned (.int .i64 x) ∧ Below wx.heap.size wx w'

theorem ans_of {f : Nat} {n1 d1 n2 d2 : Int} {r : Bool} {p q x y z : Int} {w : World} (h : ∀ wx, Hid (Below w.heap.size w wx) → Calls Tryd.prog f #[.agg #[.int .i64 n1, .int .i64 d1], .agg #[.int .i64 n2, .int .i64 d2]] wx fun e w' => e = .returned (opV r p q) ∧ Below wx.heap.size wx w')
    (hx : M.xN r p q = x) (hy : M.xD r p q = y) (hz : M.xC r p q = z) : Ans f n1 d1 n2 d2 x y z w := by
  subst hx hy hz; exact h

theorem field_c (a b c : Int) : ∀ w : World, (Instr.field 29 (.agg #[.int .i64 a, .int .i64 b, .int .i64 c]) 1).run Tryd.prog w = .ok (.int .i64 c) w := fun _ => by kernel_rfl

theorem build_f (a b : Int) : ∀ w : World, (Instr.build 29 #[(0, .agg #[.int .i64 a, .int .i64 b])]).run Tryd.prog w = .ok (.agg #[.int .i64 a, .int .i64 b, .int .i64 0]) w := fun _ => by kernel_rfl

/-- All that the law asks of two right fractions. -/
theorem fracs_all (n1 d1 n2 d2 : Int) (w : World) (k1 : In64 n1) (k2 : In64 d1) (k3 : In64 n2) (k4 : In64 d2) (r1 : M.rightB n1 d1 = true) (r2 : M.rightB n2 d2 = true)
    (hg : w.cell? ⟨0, 0, none⟩ = some (.iface 107 (.agg #[.pointer (some ⟨7, 42, none⟩)]))) :
    ∃ sN sD sC eN eD eC pN pD pC c : Int,
      (Hid (Ans 7 n1 d1 n2 d2 sN sD sC w) ∧ Hid (Ans 7 n2 d2 n1 d1 sN sD sC w) ∧ Hid (Ans 9 n1 d1 n2 d2 sN sD sC w) ∧ Hid (sC = 0 → Ans 10 sN sD n2 d2 n1 d1 0 w)) ∧
      (Hid (Ans 10 n1 d1 n2 d2 eN eD eC w) ∧ Hid (Ans 11 n1 d1 n2 d2 eN eD eC w) ∧ Hid (AnsI 12 n1 d1 n2 d2 c w) ∧ Hid (eC = 0 → decide (0 < eN) = decide (0 < c))) ∧
      (Hid (Ans 8 n1 d1 n2 d2 pN pD pC w) ∧ Hid (Ans 8 n2 d2 n1 d1 pN pD pC w) ∧ Hid (Ans 13 n1 d1 n2 d2 pN pD pC w) ∧ Hid (pC = 0 → n2 ≠ 0 → Ans 14 pN pD n2 d2 n1 d1 0 w)) ∧
      (Hid (AnsI 12 n1 d1 n1 d1 0 w) ∧ Hid (AnsI 12 n2 d2 n1 d1 (-c) w) ∧ -1 ≤ c ∧ c ≤ 1) := by
  have hgl : 0 < w.heap.size := World.block_lt_of_cell? _ _ hg
  have G : ∀ wx, Hid (Below w.heap.size w wx) → wx.cell? ⟨0, 0, none⟩ = some (.iface 107 (.agg #[.pointer (some ⟨7, 42, none⟩)])) := fun wx hB => (hB.out.cell hgl).trans hg
  have rr : (M.rightB n1 d1 && M.rightB n2 d2) = true := by rw [r1, r2]; rfl
  have rr' : (M.rightB n2 d2 && M.rightB n1 d1) = true := by rw [r1, r2]; rfl
  obtain ⟨k1a, k1b⟩ := k1
  obtain ⟨k2a, k2b⟩ := k2
  obtain ⟨k3a, k3b⟩ := k3
  obtain ⟨k4a, k4b⟩ := k4
  have ct := M.cmp_turn n1 d1 n2 d2
  have ct2 := M.cmp_turn n2 d2 n1 d1
  refine ⟨M.oN (n1 * d2 + n2 * d1) (d1 * d2), M.oD (n1 * d2 + n2 * d1) (d1 * d2), M.codeF (n1 * d2 + n2 * d1) (d1 * d2), M.oN (n1 * d2 - n2 * d1) (d1 * d2), M.oD (n1 * d2 - n2 * d1) (d1 * d2), M.codeF (n1 * d2 - n2 * d1) (d1 * d2), M.oN (n1 * n2) (d1 * d2), M.oD (n1 * n2) (d1 * d2), M.codeF (n1 * n2) (d1 * d2), M.cmpF n1 d1 n2 d2,
    ⟨?_, ?_, ?_, ?_⟩, ⟨?_, ?_, ?_, ?_⟩, ⟨?_, ?_, ?_, ?_⟩, ?_, ?_, by omega, by omega⟩
  · exact ans_of (fun wx hB => implAdd_any n1 d1 n2 d2 wx k1a k1b k2a k2b k3a k3b k4a k4b (G wx hB)) (by rw [rr]; rfl) (by rw [rr]; rfl) (by rw [rr]; rfl)
  · have e1 : n2 * d1 + n1 * d2 = n1 * d2 + n2 * d1 := Int.add_comm _ _
    have e2 : d2 * d1 = d1 * d2 := Int.mul_comm _ _
    exact ans_of (fun wx hB => implAdd_any n2 d2 n1 d1 wx k3a k3b k4a k4b k1a k1b k2a k2b (G wx hB)) (by rw [rr', e1, e2]; rfl) (by rw [rr', e1, e2]; rfl) (by rw [rr', e1, e2]; rfl)
  · exact ans_of (fun wx _ => specAdd_any n1 d1 n2 d2 wx) (by rw [rr]; rfl) (by rw [rr]; rfl) (by rw [rr]; rfl)
  · intro hc
    have o := M.o_bd (n1 * d2 + n2 * d1) (d1 * d2)
    have b := M.back_sub n1 d1 n2 d2 r1 r2 hc _ _ rfl rfl
    exact ans_of (fun wx hB => implSub_any _ _ n2 d2 wx (by omega) (by omega) (by omega) (by omega) k3a k3b k4a k4b (G wx hB)) b.1 b.2.1 b.2.2
  · exact ans_of (fun wx hB => implSub_any n1 d1 n2 d2 wx k1a k1b k2a k2b k3a k3b k4a k4b (G wx hB)) (by rw [rr]; rfl) (by rw [rr]; rfl) (by rw [rr]; rfl)
  · exact ans_of (fun wx _ => specSub_any n1 d1 n2 d2 wx) (by rw [rr]; rfl) (by rw [rr]; rfl) (by rw [rr]; rfl)
  · exact fun wx _ => implCmp_any n1 d1 n2 d2 wx k1a k1b k2a k2b k3a k3b k4a k4b
  · exact fun hc => M.cmp_sign n1 d1 n2 d2 r1 r2 hc
  · exact ans_of (fun wx hB => implMul_any n1 d1 n2 d2 wx k1a k1b k2a k2b k3a k3b k4a k4b (G wx hB)) (by rw [rr]; rfl) (by rw [rr]; rfl) (by rw [rr]; rfl)
  · have e1 : n2 * n1 = n1 * n2 := Int.mul_comm _ _
    have e2 : d2 * d1 = d1 * d2 := Int.mul_comm _ _
    exact ans_of (fun wx hB => implMul_any n2 d2 n1 d1 wx k3a k3b k4a k4b k1a k1b k2a k2b (G wx hB)) (by rw [rr', e1, e2]; rfl) (by rw [rr', e1, e2]; rfl) (by rw [rr', e1, e2]; rfl)
  · exact ans_of (fun wx _ => specMul_any n1 d1 n2 d2 wx) (by rw [rr]; rfl) (by rw [rr]; rfl) (by rw [rr]; rfl)
  · intro hc hn
    have o := M.o_bd (n1 * n2) (d1 * d2)
    have b := M.back_div n1 d1 n2 d2 r1 r2 hn hc _ _ rfl rfl
    exact ans_of (fun wx hB => implDiv_any _ _ n2 d2 wx (by omega) (by omega) (by omega) (by omega) k3a k3b k4a k4b (G wx hB)) b.1 b.2.1 b.2.2
  · have h : AnsI 12 n1 d1 n1 d1 (M.cmpF n1 d1 n1 d1) w := fun wx _ => implCmp_any n1 d1 n1 d1 wx k1a k1b k2a k2b k1a k1b k2a k2b
    rw [M.cmp_self] at h
    exact h
  · have h : AnsI 12 n2 d2 n1 d1 (M.cmpF n2 d2 n1 d1) w := fun wx _ => implCmp_any n2 d2 n1 d1 wx k3a k3b k4a k4b k1a k1b k2a k2b
    rw [ct2.1] at h
    exact h

/-- Seven cells of three blocks that stay. -/
theorem keep7 {w W W' : World} {A B S : Nat} {a0 a1 b0 b1 s0 s1 s2 : Value} (hb : Below W.heap.size W W')
    (h : W.cell? ⟨A, 0, none⟩ = some a0 ∧ W.cell? ⟨A, 1, none⟩ = some a1 ∧ W.cell? ⟨B, 0, none⟩ = some b0 ∧ W.cell? ⟨B, 1, none⟩ = some b1 ∧ W.cell? ⟨S, 0, none⟩ = some s0 ∧ W.cell? ⟨S, 1, none⟩ = some s1 ∧ W.cell? ⟨S, 2, none⟩ = some s2 ∧ Hid (Below w.heap.size w W)) :
    W'.cell? ⟨A, 0, none⟩ = some a0 ∧ W'.cell? ⟨A, 1, none⟩ = some a1 ∧ W'.cell? ⟨B, 0, none⟩ = some b0 ∧ W'.cell? ⟨B, 1, none⟩ = some b1 ∧ W'.cell? ⟨S, 0, none⟩ = some s0 ∧ W'.cell? ⟨S, 1, none⟩ = some s1 ∧ W'.cell? ⟨S, 2, none⟩ = some s2 ∧ Hid (Below w.heap.size w W') := by
  obtain ⟨c1, c2, c3, c4, c5, c6, c7, hB⟩ := h
  exact ⟨(hb.cell (World.block_lt_of_cell? _ _ c1)).trans c1, (hb.cell (World.block_lt_of_cell? _ _ c2)).trans c2, (hb.cell (World.block_lt_of_cell? _ _ c3)).trans c3, (hb.cell (World.block_lt_of_cell? _ _ c4)).trans c4, (hb.cell (World.block_lt_of_cell? _ _ c5)).trans c5, (hb.cell (World.block_lt_of_cell? _ _ c6)).trans c6, (hb.cell (World.block_lt_of_cell? _ _ c7)).trans c7, hB.out.trans (hb.mono hB.out.size)⟩

theorem hid7 {w W : World} {A B S : Nat} {a0 a1 b0 b1 s0 s1 s2 : Value}
    (h : W.cell? ⟨A, 0, none⟩ = some a0 ∧ W.cell? ⟨A, 1, none⟩ = some a1 ∧ W.cell? ⟨B, 0, none⟩ = some b0 ∧ W.cell? ⟨B, 1, none⟩ = some b1 ∧ W.cell? ⟨S, 0, none⟩ = some s0 ∧ W.cell? ⟨S, 1, none⟩ = some s1 ∧ W.cell? ⟨S, 2, none⟩ = some s2 ∧ Hid (Below w.heap.size w W)) : Hid (Below w.heap.size w W) := h.2.2.2.2.2.2.2

theorem keep_new {w W V : World} {A B : Nat} {a0 a1 b0 b1 s0 s1 s2 : Value} {t : TypeId} (hB : Hid (Below w.heap.size w W)) (c1 : W.cell? ⟨A, 0, none⟩ = some a0) (c2 : W.cell? ⟨A, 1, none⟩ = some a1) (c3 : W.cell? ⟨B, 0, none⟩ = some b0) (c4 : W.cell? ⟨B, 1, none⟩ = some b1) (hb : Below W.heap.size W V) :
    (V.alloc (.cells #[s0, s1, s2] t)).cell? ⟨A, 0, none⟩ = some a0 ∧ (V.alloc (.cells #[s0, s1, s2] t)).cell? ⟨A, 1, none⟩ = some a1 ∧ (V.alloc (.cells #[s0, s1, s2] t)).cell? ⟨B, 0, none⟩ = some b0 ∧ (V.alloc (.cells #[s0, s1, s2] t)).cell? ⟨B, 1, none⟩ = some b1 ∧ (V.alloc (.cells #[s0, s1, s2] t)).cell? ⟨V.heap.size, 0, none⟩ = some s0 ∧ (V.alloc (.cells #[s0, s1, s2] t)).cell? ⟨V.heap.size, 1, none⟩ = some s1 ∧ (V.alloc (.cells #[s0, s1, s2] t)).cell? ⟨V.heap.size, 2, none⟩ = some s2 ∧ Hid (Below w.heap.size w (V.alloc (.cells #[s0, s1, s2] t))) := by
  have hb2 : Below W.heap.size W (V.alloc (.cells #[s0, s1, s2] t)) := hb.alloc hb.size _
  refine ⟨(hb2.cell (World.block_lt_of_cell? _ _ c1)).trans c1, (hb2.cell (World.block_lt_of_cell? _ _ c2)).trans c2, (hb2.cell (World.block_lt_of_cell? _ _ c3)).trans c3, (hb2.cell (World.block_lt_of_cell? _ _ c4)).trans c4, by simp, by simp, by simp, hB.out.trans (hb2.mono hB.out.size)⟩
end Go.Proofs.YtemmmhkjjcmcmaaDoor
