/-
  The contract of the model's draw of a fraction.
-/
import Derived.Test.YtkaokfmaecdkiaaGreatDoorOf2
import Derived.Test.YtkaokfmaecdkiaaGreatDoorDrawA
namespace Go.Proofs.YtkaokfmaecdkiaaGreatDoor
open Go.RowKit

namespace M
theorem o_bd (n d : Int) : -2147483647 ≤ oN n d ∧ oN n d ≤ 2147483647 ∧ 0 ≤ oD n d ∧ oD n d ≤ 2147483647 := by
  unfold oN oD
  by_cases h : codeF n d = 0
  · rw [if_pos h, if_pos h]
    unfold codeF at h
    by_cases k0 : d = 0
    · rw [if_pos k0] at h; omega
    rw [if_neg k0] at h
    have := low_facts n d k0
    split at h
    · omega
    · split at h <;> omega
  · rw [if_neg h, if_neg h]; omega
end M

theorem Chg.setNew {sb : Nat} {a b : World} (h : Chg sb a b) {p : Addr} (hp : a.heap.size ≤ p.block) (v : Value) : Chg sb a (b.setCell p v) :=
  ⟨h.1, h.2.1, h.2.2.1, by simpa using h.2.2.2.1, fun k hk hne => (Below.heap_setCell _ _ _ _ (by omega)).trans (h.2.2.2.2 k hk hne)⟩

/-- A source, a variable of two numbers and a slot of two, each in a block of its own. -/
def FV (w : World) (sb R F : Nat) (a b : Int) (W : World) : Prop :=
  Src sb W ∧ Chg sb w W ∧ (sb < w.heap.size ∧ R ≠ F ∧ w.heap.size ≤ R ∧ w.heap.size ≤ F) ∧
  (W.cell? ⟨F, 0, none⟩ = some (.int .i64 a) ∧ W.cell? ⟨F, 1, none⟩ = some (.int .i64 b) ∧ W.frozen? ⟨F, 0, none⟩ = false ∧ W.frozen? ⟨F, 1, none⟩ = false) ∧
  (W.cell? ⟨R, 0, none⟩ = some (.int .i64 0) ∧ W.cell? ⟨R, 1, none⟩ = some (.int .i64 0) ∧ W.frozen? ⟨R, 0, none⟩ = false ∧ W.frozen? ⟨R, 1, none⟩ = false)

theorem FV.draw {w : World} {sb R F : Nat} {a b : Int} {W W' : World} (h : FV w sb R F a b W) (hd : Drew sb W W') : FV w sb R F a b W' := by
  obtain ⟨_, h2, h3, ⟨c0, c1, f0, f1⟩, ⟨d0, d1, e0, e1⟩⟩ := h
  have lF := World.block_lt_of_cell? _ _ c0
  have lR := World.block_lt_of_cell? _ _ d0
  exact ⟨hd.1, h2.trans hd.2, h3, ⟨(hd.2.cell (p := ⟨F, 0, none⟩) lF (by show F ≠ sb; omega)).trans c0, (hd.2.cell (p := ⟨F, 1, none⟩) lF (by show F ≠ sb; omega)).trans c1, (hd.2.frozen (p := ⟨F, 0, none⟩) lF (by show F ≠ sb; omega)).trans f0, (hd.2.frozen (p := ⟨F, 1, none⟩) lF (by show F ≠ sb; omega)).trans f1⟩,
    ⟨(hd.2.cell (p := ⟨R, 0, none⟩) lR (by show R ≠ sb; omega)).trans d0, (hd.2.cell (p := ⟨R, 1, none⟩) lR (by show R ≠ sb; omega)).trans d1, (hd.2.frozen (p := ⟨R, 0, none⟩) lR (by show R ≠ sb; omega)).trans e0, (hd.2.frozen (p := ⟨R, 1, none⟩) lR (by show R ≠ sb; omega)).trans e1⟩⟩

theorem FV.below {w : World} {sb R F : Nat} {a b : Int} {W W' : World} (h : FV w sb R F a b W) (hb : Below W.heap.size W W') : FV w sb R F a b W' :=
  h.draw ⟨h.1.below hb, Chg.of_below hb⟩

theorem set_cells {W : World} {F : Nat} {u v : Value} (c0 : W.cell? ⟨F, 0, none⟩ = some u) (c1 : W.cell? ⟨F, 1, none⟩ = some v) (x y : Value) :
    ((W.setCell ⟨F, 0, none⟩ x).setCell ⟨F, 1, none⟩ y).cell? ⟨F, 0, none⟩ = some x ∧ ((W.setCell ⟨F, 0, none⟩ x).setCell ⟨F, 1, none⟩ y).cell? ⟨F, 1, none⟩ = some y := by
  constructor
  · rw [World.cell?_setCell_other _ _ _ _ (by simp)]; exact World.cell?_setCell_same _ _ _ c0
  · exact World.cell?_setCell_same _ _ _ (by rw [World.cell?_setCell_other _ _ _ _ (by simp)]; exact c1)

theorem set_other {W : World} {F : Nat} (x y : Value) {p : Addr} (hp : p.block ≠ F) : ((W.setCell ⟨F, 0, none⟩ x).setCell ⟨F, 1, none⟩ y).cell? p = W.cell? p := by
  rw [World.cell?_setCell_other _ _ _ _ (fun e => hp (by rw [← e])), World.cell?_setCell_other _ _ _ _ (fun e => hp (by rw [← e]))]

theorem Src.set2 {sb F : Nat} {W : World} (h1 : Src sb W) (h3 : sb < F) (x y : Value) : Src sb ((W.setCell ⟨F, 0, none⟩ x).setCell ⟨F, 1, none⟩ y) := by
  obtain ⟨p, len, cap, at_, mix, size, ⟨k0, k1, k2, k3, g0, g1, g2, g3⟩, q1, q2, q3, q4, q5, q6⟩ := h1
  have hsF : sb ≠ F := by omega
  refine ⟨p, len, cap, at_, mix, size, ⟨(set_other _ _ hsF).trans k0, (set_other _ _ hsF).trans k1, (set_other _ _ hsF).trans k2, (set_other _ _ hsF).trans k3, by simpa using g0, by simpa using g1, by simpa using g2, by simpa using g3⟩, q1, q2, q3, q4, q5, fun i hi => ?_⟩
  obtain ⟨cb, co, z, e, hlt, hc, z0, z1⟩ := q6 i hi
  exact ⟨cb, co, z, e, hlt, (set_other _ _ (by show cb ≠ F; omega)).trans hc, z0, z1⟩

theorem FV.store {w : World} {sb R F : Nat} {a b : Int} {W : World} (h : FV w sb R F a b W) (x y : Int) : FV w sb R F x y ((W.setCell ⟨F, 0, none⟩ (.int .i64 x)).setCell ⟨F, 1, none⟩ (.int .i64 y)) := by
  obtain ⟨h1, h2, h3, ⟨c0, c1, f0, f1⟩, ⟨d0, d1, e0, e1⟩⟩ := h
  have hs := set_cells c0 c1 (.int .i64 x) (.int .i64 y)
  refine ⟨?_, (h2.setNew h3.2.2.2 _).setNew h3.2.2.2 _, h3, ⟨hs.1, hs.2, by simpa using f0, by simpa using f1⟩, ⟨(set_other _ _ h3.2.1).trans d0, (set_other _ _ h3.2.1).trans d1, by simpa using e0, by simpa using e1⟩⟩
  exact h1.set2 (by omega) _ _

/-- The same, whatever the two numbers of the variable are. -/
def FW (w : World) (sb R F : Nat) (W : World) : Prop := ∃ a b : Int, (-9223372036854775808 ≤ a ∧ a ≤ 9223372036854775807 ∧ -9223372036854775808 ≤ b ∧ b ≤ 9223372036854775807) ∧ FV w sb R F a b W
theorem FW.src {w : World} {sb R F : Nat} {W : World} (h : FW w sb R F W) : Src sb W := by obtain ⟨a, b, _, h⟩ := h; exact h.1
theorem FW.draw {w : World} {sb R F : Nat} {W W' : World} (h : FW w sb R F W) (hd : Drew sb W W') : FW w sb R F W' := by obtain ⟨a, b, k, h⟩ := h; exact ⟨a, b, k, h.draw hd⟩
theorem FW.below {w : World} {sb R F : Nat} {W W' : World} (h : FW w sb R F W) (hb : Below W.heap.size W W') : FW w sb R F W' := by obtain ⟨a, b, k, h⟩ := h; exact ⟨a, b, k, h.below hb⟩
theorem FW.store {w : World} {sb R F : Nat} {W : World} (h : FW w sb R F W) (x y : Int) (hk : -9223372036854775808 ≤ x ∧ x ≤ 9223372036854775807 ∧ -9223372036854775808 ≤ y ∧ y ≤ 9223372036854775807) :
    FW w sb R F ((W.setCell ⟨F, 0, none⟩ (.int .i64 x)).setCell ⟨F, 1, none⟩ (.int .i64 y)) := by obtain ⟨a, b, k, h⟩ := h; exact ⟨x, y, hk, h.store x y⟩

theorem field_f (a b c : Int) : ∀ w : World, (Instr.field 65 (.agg #[.int .i64 a, .int .i64 b, .int .i64 c]) 0).run Tryz.prog w = .ok (.agg #[.int .i64 a, .int .i64 b]) w := fun _ => by kernel_rfl

set_option maxRecDepth 100000 in
set_option maxHeartbeats 4000000 in
theorem frac_any (sb : Nat) (w : World) (h : Src sb w) :
    Calls Tryz.prog 33 #[.pointer (some ⟨sb, 0, none⟩)] w fun e w' => (∃ a b, e = .returned (.agg #[.int .i64 a, .int .i64 b]) ∧ -9223372036854775808 ≤ a ∧ a ≤ 9223372036854775807 ∧ -9223372036854775808 ≤ b ∧ b ≤ 9223372036854775807) ∧ Drew sb w w' := by
  have H : Hid (Src sb w) := h
  have hl := h.lt
  clear h
  go_enter Tryz.func33, Tryz.ntmps33
  go_wp2_with fail
  -- the result's slot lies in block w.heap.size
  refine (n_any sb 201 _ (H.out.below ((Below.refl _ _).alloc (Nat.le_refl _) _)) (by omega)).mono ?_
  rintro e w1 ⟨⟨v1, rfl, v1a, v1b, _⟩, hD1⟩
  have v1c : v1 < 201 := v1b (by omega)
  clear v1b
  go_wp2_with fail
  refine (n_any sb 30 _ hD1.1 (by omega)).mono ?_
  rintro e w2 ⟨⟨v2, rfl, v2a, v2b, _⟩, hD2⟩
  have v2c : v2 < 30 := v2b (by omega)
  clear v2b
  go_wp2_with fail
  refine (specOf_any _ _ _ (by omega) (by omega) (by omega) (by omega)).mono ?_
  rintro e w3 ⟨rfl, hb3⟩
  obtain ⟨o1, o2, o3, o4⟩ := M.o_bd (v1 - 100) (1 + v2)
  generalize M.oN (v1 - 100) (1 + v2) = a0 at *
  generalize M.oD (v1 - 100) (1 + v2) = b0 at *
  have hne : w.heap.size ≠ sb := by omega
  have HF : Hid (FV w sb w.heap.size w3.heap.size a0 b0 (w3.alloc (.cells #[.int .i64 a0, .int .i64 b0] 35))) := by
    have C1 : Chg sb (w.alloc (.cells #[.int .i64 0, .int .i64 0] 35)) w3 := (hD1.2.trans hD2.2).trans (Chg.of_below hb3)
    have z3 := C1.size
    simp at z3
    have S3 : Src sb w3 := hD2.1.below hb3
    refine ⟨S3.below ((Below.refl _ _).alloc (Nat.le_refl _) _), ((Chg.of_below ((Below.refl _ _).alloc (Nat.le_refl _) _)).trans C1).trans (Chg.of_below ((Below.refl _ _).alloc (Nat.le_refl _) _)), ⟨hl, by omega, Nat.le_refl _, by omega⟩, ⟨by simp, by simp, by simp, by simp⟩, ?_⟩
    have u0 := C1.cell (p := ⟨w.heap.size, 0, none⟩) (by simp) hne
    have u1 := C1.cell (p := ⟨w.heap.size, 1, none⟩) (by simp) hne
    have u2 := C1.frozen (p := ⟨w.heap.size, 0, none⟩) (by simp) hne
    have u3 := C1.frozen (p := ⟨w.heap.size, 1, none⟩) (by simp) hne
    simp at u0 u1 u2 u3
    refine ⟨?_, ?_, ?_, ?_⟩
    · rw [World.cell?_alloc_lt _ _ ⟨w.heap.size, 0, none⟩ (by show w.heap.size < w3.heap.size; omega)]; exact u0
    · rw [World.cell?_alloc_lt _ _ ⟨w.heap.size, 1, none⟩ (by show w.heap.size < w3.heap.size; omega)]; exact u1
    · rw [World.frozen?_alloc_old _ _ ⟨w.heap.size, 0, none⟩ (by show w.heap.size ≠ w3.heap.size; omega)]; exact u2
    · rw [World.frozen?_alloc_old _ _ ⟨w.heap.size, 1, none⟩ (by show w.heap.size ≠ w3.heap.size; omega)]; exact u3
  clear hD1 hD2 hb3
  have hfd := field_f a0 b0 (M.codeF (v1 - 100) (1 + v2))
  go_wp2_with fail
  refine (one_any sb 6 _ HF.out.1 (by omega)).mono ?_
  rintro e w4 ⟨⟨q, rfl⟩, hD4⟩
  have HF4 : Hid (FW w sb w.heap.size w3.heap.size w4) := ⟨a0, b0, by omega, HF.out.draw hD4⟩
  clear HF hD4 hfd
  go_upto_if 13 with fail
  go_cut [] (fun wx => Hid (FW w sb w.heap.size w3.heap.size wx))
  case first =>
    cases q with
    | false =>
      go_wp2_with fail
      go_meet
      exact HF4.out
    | true =>
      go_wp2_with fail
      refine (n_any sb 2147483647 _ HF4.out.src (by omega)).mono ?_
      rintro e w5 ⟨⟨v3, rfl, v3a, v3b, _⟩, hD5⟩
      have v3c : v3 < 2147483647 := v3b (by omega)
      clear v3b
      have HF5 := HF4.out.draw hD5
      clear HF4 hD5
      have HF5 : Hid (FW w sb w.heap.size w3.heap.size w5) := HF5
      go_wp2_with fail
      refine (n_any sb 2 _ HF5.out.src (by omega)).mono ?_
      rintro e w6 ⟨⟨v4, rfl, v4a, v4b, _⟩, hD6⟩
      have v4c : v4 < 2 := v4b (by omega)
      clear v4b
      have HF6 : Hid (FW w sb w.heap.size w3.heap.size w6) := HF5.out.draw hD6
      clear HF5 hD6
      obtain ⟨m1, m2⟩ : -2147483647 ≤ v3 * (1 - 2 * v4) ∧ v3 * (1 - 2 * v4) ≤ 2147483647 := by
        rcases (by omega : v4 = 0 ∨ v4 = 1) with rfl | rfl <;> simp <;> omega
      go_wp2_with fail
      refine (n_any sb 2147483647 _ HF6.out.src (by omega)).mono ?_
      rintro e w7 ⟨⟨v5, rfl, v5a, v5b, _⟩, hD7⟩
      have v5c : v5 < 2147483647 := v5b (by omega)
      clear v5b
      have HF7 : Hid (FW w sb w.heap.size w3.heap.size w7) := HF6.out.draw hD7
      clear HF6 hD7
      generalize v3 * (1 - 2 * v4) = y at *
      go_wp2_with fail
      refine (specOf_any _ _ _ (by omega) (by omega) (by omega) (by omega)).mono ?_
      rintro e w8 ⟨rfl, hb8⟩
      obtain ⟨p1, p2, p3, p4⟩ := M.o_bd y (1 + v5)
      have hfd := field_f (M.oN y (1 + v5)) (M.oD y (1 + v5)) (M.codeF y (1 + v5))
      generalize M.oN y (1 + v5) = a1 at *
      generalize M.oD y (1 + v5) = b1 at *
      generalize M.codeF y (1 + v5) = c1 at *
      have HF8 : Hid (FW w sb w.heap.size w3.heap.size w8) := HF7.out.below hb8
      clear HF7 hb8
      obtain ⟨_, _, _, hV⟩ := HF8.out
      obtain ⟨_, _, _, ⟨c0, c1', f0, f1⟩, _⟩ := hV
      have HS := HF8.out.store a1 b1 (by omega)
      have HS : Hid (FW w sb w.heap.size w3.heap.size _) := HS
      clear HF8
      go_wp2_with fail
      go_meet
      exact HS.out
  case rest =>
    clear HF4
    go_wp2_with fail
    refine (one_any sb 20 _ hcut.out.src (by omega)).mono ?_
    rintro e w5 ⟨⟨q2, rfl⟩, hD5⟩
    have HF5 : Hid (FW w sb w.heap.size w3.heap.size w5) := hcut.out.draw hD5
    clear hcut hD5
    go_upto_if 27 with fail
    go_cut [] (fun wx => Hid (FW w sb w.heap.size w3.heap.size wx))
    case first =>
      cases q2 with
      | false =>
        go_wp2_with fail
        go_meet
        exact HF5.out
      | true =>
        go_wp2_with fail
        refine (edge_any sb _ HF5.out.src).mono ?_
        rintro e w6 ⟨⟨v6, rfl, v6a, v6b⟩, hD6⟩
        have HF6 : Hid (FW w sb w.heap.size w3.heap.size w6) := HF5.out.draw hD6
        clear HF5 hD6
        go_wp2_with fail
        refine (edge_any sb _ HF6.out.src).mono ?_
        rintro e w7 ⟨⟨v7, rfl, v7a, v7b⟩, hD7⟩
        have HF7 : Hid (FW w sb w.heap.size w3.heap.size w7) := HF6.out.draw hD7
        clear HF6 hD7
        obtain ⟨_, _, _, hV⟩ := HF7.out
        obtain ⟨_, _, _, ⟨c0, c1', f0, f1⟩, _⟩ := hV
        have HS := HF7.out.store v6 v7 (by omega)
        have HS : Hid (FW w sb w.heap.size w3.heap.size _) := HS
        clear HF7
        go_wp2_with fail
        go_meet
        exact HS.out
    case rest =>
      obtain ⟨a, b, hk, hV⟩ := hcut.out
      obtain ⟨hS, hC, hz, ⟨c0, c1', f0, f1⟩, d0, d1, e0, e1⟩ := hV
      clear hcut
      have hs := set_cells d0 d1 (.int .i64 a) (.int .i64 b)
      go_wp2_with fail
      exact bodyPost_ret (v := .agg #[.int .i64 a, .int .i64 b]) (by simp [results, Tryz.results33, go_sem, hs.1, hs.2]) rfl ⟨⟨a, b, rfl, hk⟩, hS.set2 (by omega) _ _, (hC.setNew hz.2.2.1 _).setNew hz.2.2.1 _⟩
end Go.Proofs.YtkaokfmaecdkiaaGreatDoor
