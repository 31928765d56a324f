/-
  Blocks of a call's own beside a source that is drawn from.
-/
import Derived.Test.YtgkgpdionhfkmaaDoorBDraw
import Derived.Deep.OwnRows
namespace Go.Proofs.YtgkgpdionhfkmaaDoor
open Go.RowKit Go.Deep

theorem rowIs_drew {sb b n : Nat} {t : TypeId} {f : Nat → Value} {W W' : World} (h : W.rowIs b t n f) (hd : Drew sb W W') (hne : b ≠ sb) : W'.rowIs b t n f := h.of_block (hd.2.2.2.2.2 b h.lt hne)
theorem rowIs_below {b n : Nat} {t : TypeId} {f : Nat → Value} {W W' : World} (h : W.rowIs b t n f) (hb : Below W.heap.size W W') : W'.rowIs b t n f := h.of_block (hb.block b h.lt)
theorem Drew.step {sb : Nat} {w W W' : World} (h : Drew sb w W) (hd : Drew sb W W') : Drew sb w W' := ⟨hd.1, h.2.trans hd.2⟩
theorem Drew.belowStep {sb : Nat} {w W W' : World} (h : Drew sb w W) (hb : Below W.heap.size W W') : Drew sb w W' := ⟨h.1.below hb, h.2.trans (Chg.of_below hb)⟩
theorem Drew.setNew {sb : Nat} {w W : World} (h : Drew sb w W) (hsb : sb < w.heap.size) {p : Addr} (hp : w.heap.size ≤ p.block) (v : Value) : Drew sb w (W.setCell p v) := by
  refine ⟨h.1.same' (fun k hk => Below.heap_setCell _ _ _ _ (by omega)), h.2.1, h.2.2.1, h.2.2.2.1, by simpa using h.2.2.2.2.1, fun k hk hne => (Below.heap_setCell _ _ _ _ (by omega)).trans (h.2.2.2.2.2 k hk hne)⟩

/-- The cells of a frame. -/
def fr4 (u k q : Int) (b : ByteArray) (i : Nat) : Value := if i = 0 then .int .i64 u else if i = 1 then .int .i64 k else if i = 2 then .int .i64 q else .string b
theorem fr4_row (u k q : Int) (b : ByteArray) (i : Nat) (hi : i < (#[.int .i64 u, .int .i64 k, .int .i64 q, .string b] : Array Value).size) : (#[.int .i64 u, .int .i64 k, .int .i64 q, .string b] : Array Value)[i]? = some (fr4 u k q b i) := by
  have hv : i = 0 ∨ i = 1 ∨ i = 2 ∨ i = 3 := by simp at hi; omega
  rcases hv with rfl | rfl | rfl | rfl <;> rfl
/-- The drawing of a frame: the source, the slot of the answer, the frame so far. -/
def FrV (w : World) (sb R F : Nat) (u k q : Int) (b : ByteArray) (W : World) : Prop :=
  Drew sb w W ∧ (sb < w.heap.size ∧ R ≠ F ∧ w.heap.size ≤ R ∧ w.heap.size ≤ F) ∧ W.rowIs F 27 4 (fr4 u k q b) ∧ W.rowIs R 27 4 (fr4 0 0 0 ⟨#[]⟩)
theorem FrV.draw {w : World} {sb R F : Nat} {u k q : Int} {b : ByteArray} {W W' : World} (h : FrV w sb R F u k q b W) (hd : Drew sb W W') : FrV w sb R F u k q b W' :=
  ⟨h.1.step hd, h.2.1, rowIs_drew h.2.2.1 hd (by have := h.2.1; omega), rowIs_drew h.2.2.2 hd (by have := h.2.1; omega)⟩
theorem FrV.cells {w : World} {sb R F : Nat} {u k q : Int} {b : ByteArray} {W : World} (h : FrV w sb R F u k q b W) :
    (W.cell? ⟨F, 0, none⟩ = some (.int .i64 u) ∧ W.cell? ⟨F, 1, none⟩ = some (.int .i64 k) ∧ W.cell? ⟨F, 2, none⟩ = some (.int .i64 q) ∧ W.cell? ⟨F, 3, none⟩ = some (.string b)) ∧
    (W.frozen? ⟨F, 0, none⟩ = false ∧ W.frozen? ⟨F, 1, none⟩ = false ∧ W.frozen? ⟨F, 2, none⟩ = false ∧ W.frozen? ⟨F, 3, none⟩ = false) :=
  ⟨⟨h.2.2.1.cell (by omega), h.2.2.1.cell (by omega), h.2.2.1.cell (by omega), h.2.2.1.cell (by omega)⟩, h.2.2.1.frozen 0, h.2.2.1.frozen 1, h.2.2.1.frozen 2, h.2.2.1.frozen 3⟩
theorem FrV.slot {w : World} {sb R F : Nat} {u k q : Int} {b : ByteArray} {W : World} (h : FrV w sb R F u k q b W) :
    (W.cell? ⟨R, 0, none⟩ = some (.int .i64 0) ∧ W.cell? ⟨R, 1, none⟩ = some (.int .i64 0) ∧ W.cell? ⟨R, 2, none⟩ = some (.int .i64 0) ∧ W.cell? ⟨R, 3, none⟩ = some (.string ⟨#[]⟩)) ∧
    (W.frozen? ⟨R, 0, none⟩ = false ∧ W.frozen? ⟨R, 1, none⟩ = false ∧ W.frozen? ⟨R, 2, none⟩ = false ∧ W.frozen? ⟨R, 3, none⟩ = false) :=
  ⟨⟨h.2.2.2.cell (by omega), h.2.2.2.cell (by omega), h.2.2.2.cell (by omega), h.2.2.2.cell (by omega)⟩, h.2.2.2.frozen 0, h.2.2.2.frozen 1, h.2.2.2.frozen 2, h.2.2.2.frozen 3⟩
theorem FrV.set {w : World} {sb R F : Nat} {u k q u' k' q' : Int} {b b' : ByteArray} {W : World} (h : FrV w sb R F u k q b W) (i : Nat) (v : Value) (e : ∀ j, j < 4 → (if j = i then v else fr4 u k q b j) = fr4 u' k' q' b' j) : FrV w sb R F u' k' q' b' (W.setCell ⟨F, i, none⟩ v) :=
  ⟨h.1.setNew h.2.1.1 h.2.1.2.2.2 v, h.2.1, (h.2.2.1.set i v).congr e, h.2.2.2.setOther (by show R ≠ F; exact h.2.1.2.1) v⟩
theorem FrV.setU {w : World} {sb R F : Nat} {u k q : Int} {b : ByteArray} {W : World} (h : FrV w sb R F u k q b W) (x : Int) : FrV w sb R F x k q b (W.setCell ⟨F, 0, none⟩ (.int .i64 x)) :=
  h.set 0 _ (fun j _ => by unfold fr4; by_cases e : j = 0 <;> simp [e])
theorem FrV.setK {w : World} {sb R F : Nat} {u k q : Int} {b : ByteArray} {W : World} (h : FrV w sb R F u k q b W) (x : Int) : FrV w sb R F u x q b (W.setCell ⟨F, 1, none⟩ (.int .i64 x)) :=
  h.set 1 _ (fun j _ => by unfold fr4; by_cases e : j = 1 <;> simp [e])
theorem FrV.setQ {w : World} {sb R F : Nat} {u k q : Int} {b : ByteArray} {W : World} (h : FrV w sb R F u k q b W) (x : Int) : FrV w sb R F u k x b (W.setCell ⟨F, 2, none⟩ (.int .i64 x)) :=
  h.set 2 _ (fun j _ => by unfold fr4; by_cases e : j = 2 <;> simp [e])
theorem FrV.setB {w : World} {sb R F : Nat} {u k q : Int} {b : ByteArray} {W : World} (h : FrV w sb R F u k q b W) (x : ByteArray) : FrV w sb R F u k q x (W.setCell ⟨F, 3, none⟩ (.string x)) :=
  h.set 3 _ (fun j hj => by
    unfold fr4
    by_cases e : j = 3
    · simp [e]
    · rw [if_neg e]
      by_cases e0 : j = 0
      · simp [e0]
      · by_cases e1 : j = 1
        · simp [e1]
        · by_cases e2 : j = 2
          · simp [e2]
          · omega)
/-- The same, whatever the frame is. -/
def FrW (w : World) (sb R F : Nat) (W : World) : Prop := ∃ (u k q : Int) (b : ByteArray), ((-9223372036854775808 ≤ u ∧ u ≤ 9223372036854775807) ∧ (-9223372036854775808 ≤ k ∧ k ≤ 9223372036854775807) ∧ (-9223372036854775808 ≤ q ∧ q ≤ 9223372036854775807) ∧ b.size ≤ 65) ∧ FrV w sb R F u k q b W
theorem FrW.src {w : World} {sb R F : Nat} {W : World} (h : FrW w sb R F W) : Src sb W := by obtain ⟨u, k, q, b, _, h⟩ := h; exact h.1.1
theorem FrW.draw {w : World} {sb R F : Nat} {W W' : World} (h : FrW w sb R F W) (hd : Drew sb W W') : FrW w sb R F W' := by obtain ⟨u, k, q, b, e, h⟩ := h; exact ⟨u, k, q, b, e, h.draw hd⟩
theorem FrW.setU {w : World} {sb R F : Nat} {W : World} (h : FrW w sb R F W) (x : Int) (hx : -9223372036854775808 ≤ x ∧ x ≤ 9223372036854775807) : FrW w sb R F (W.setCell ⟨F, 0, none⟩ (.int .i64 x)) := by obtain ⟨u, k, q, b, e, h⟩ := h; exact ⟨x, k, q, b, ⟨hx, e.2⟩, h.setU x⟩
theorem FrW.setK {w : World} {sb R F : Nat} {W : World} (h : FrW w sb R F W) (x : Int) (hx : -9223372036854775808 ≤ x ∧ x ≤ 9223372036854775807) : FrW w sb R F (W.setCell ⟨F, 1, none⟩ (.int .i64 x)) := by obtain ⟨u, k, q, b, e, h⟩ := h; exact ⟨u, x, q, b, ⟨e.1, hx, e.2.2⟩, h.setK x⟩
theorem FrW.setQ {w : World} {sb R F : Nat} {W : World} (h : FrW w sb R F W) (x : Int) (hx : -9223372036854775808 ≤ x ∧ x ≤ 9223372036854775807) : FrW w sb R F (W.setCell ⟨F, 2, none⟩ (.int .i64 x)) := by obtain ⟨u, k, q, b, e, h⟩ := h; exact ⟨u, k, x, b, ⟨e.1, e.2.1, hx, e.2.2.2⟩, h.setQ x⟩
theorem FrW.setB {w : World} {sb R F : Nat} {W : World} (h : FrW w sb R F W) (x : ByteArray) (hx : x.size ≤ 65) : FrW w sb R F (W.setCell ⟨F, 3, none⟩ (.string x)) := by obtain ⟨u, k, q, b, e, h⟩ := h; exact ⟨u, k, q, x, ⟨e.1, e.2.1, e.2.2.1, hx⟩, h.setB x⟩

set_option maxRecDepth 100000 in
set_option maxHeartbeats 4000000 in
theorem frame_any (sb : Nat) (w : World) (h : Src sb w) :
    Calls Tryd.prog 33 #[.pointer (some ⟨sb, 0, none⟩)] w fun e w' => (∃ (u k q : Int) (b : ByteArray), e = .returned (.agg #[.int .i64 u, .int .i64 k, .int .i64 q, .string b]) ∧ ((-9223372036854775808 ≤ u ∧ u ≤ 9223372036854775807) ∧ (-9223372036854775808 ≤ k ∧ k ≤ 9223372036854775807) ∧ (-9223372036854775808 ≤ q ∧ q ≤ 9223372036854775807) ∧ b.size ≤ 65)) ∧ Drew sb w w' := by
  have H : Hid (Src sb w) := h
  have hl := h.lt
  clear h
  go_enter Tryd.func33, Tryd.ntmps33
  go_wp2_with fail
  have hR0 : Hid (Drew sb w (w.alloc (.cells #[.int .i64 0, .int .i64 0, .int .i64 0, .string ⟨#[]⟩] 27)) ∧ (w.alloc (.cells #[.int .i64 0, .int .i64 0, .int .i64 0, .string ⟨#[]⟩] 27)).rowIs w.heap.size 27 4 (fr4 0 0 0 ⟨#[]⟩)) :=
    ⟨⟨H.out.below ((Below.refl _ _).alloc (Nat.le_refl _) _), Chg.of_below ((Below.refl _ _).alloc (Nat.le_refl _) _)⟩, World.rowIs_alloc w _ _ _ (fr4_row _ _ _ _)⟩
  generalize w.alloc (.cells #[.int .i64 0, .int .i64 0, .int .i64 0, .string ⟨#[]⟩] 27) = w0 at *
  refine (n_any sb 251 _ hR0.out.1.1 (by omega)).mono ?_
  rintro e w1 ⟨⟨u, rfl, u0, u1, _⟩, hD⟩
  have u2 : u < 251 := u1 (by omega)
  have hR1 : Hid (Drew sb w w1 ∧ w1.rowIs w.heap.size 27 4 (fr4 0 0 0 ⟨#[]⟩)) := ⟨hR0.out.1.step hD, rowIs_drew hR0.out.2 hD (by omega)⟩
  clear hD u1 hR0
  go_wp2_with fail
  refine (n_any sb 9 _ hR1.out.1.1 (by omega)).mono ?_
  rintro e w2 ⟨⟨k, rfl, k0, k1, _⟩, hD⟩
  have k2 : k < 9 := k1 (by omega)
  have hR2 : Hid (Drew sb w w2 ∧ w2.rowIs w.heap.size 27 4 (fr4 0 0 0 ⟨#[]⟩)) := ⟨hR1.out.1.step hD, rowIs_drew hR1.out.2 hD (by omega)⟩
  clear hD k1 hR1
  go_wp2_with fail
  refine (n_any sb 65536 _ hR2.out.1.1 (by omega)).mono ?_
  rintro e w3 ⟨⟨q, rfl, q0, q1, _⟩, hD⟩
  have q2 : q < 65536 := q1 (by omega)
  have hR3 : Hid (Drew sb w w3 ∧ w3.rowIs w.heap.size 27 4 (fr4 0 0 0 ⟨#[]⟩)) := ⟨hR2.out.1.step hD, rowIs_drew hR2.out.2 hD (by omega)⟩
  clear hD q1 hR2
  go_wp2_with fail
  refine (n_any sb 6 _ hR3.out.1.1 (by omega)).mono ?_
  rintro e w4 ⟨⟨m, rfl, m0, m1, _⟩, hD⟩
  have m2 : m < 6 := m1 (by omega)
  have hR4 : Hid (Drew sb w w4 ∧ w4.rowIs w.heap.size 27 4 (fr4 0 0 0 ⟨#[]⟩)) := ⟨hR3.out.1.step hD, rowIs_drew hR3.out.2 hD (by omega)⟩
  clear hD m1 hR3
  go_wp2_with fail
  refine (bytes_any sb m m0 (by omega) _ hR4.out.1.1).mono ?_
  rintro e w5 ⟨⟨b, rfl, hbs⟩, hD⟩
  have hR5 : Hid (Drew sb w w5 ∧ w5.rowIs w.heap.size 27 4 (fr4 0 0 0 ⟨#[]⟩)) := ⟨hR4.out.1.step hD, rowIs_drew hR4.out.2 hD (by omega)⟩
  clear hD hR4
  have HW : Hid (FrW w sb w.heap.size w5.heap.size (w5.alloc (.cells #[.int .i64 u, .int .i64 (1 + k), .int .i64 q, .string b] 27))) :=
    ⟨u, 1 + k, q, b, by omega, hR5.out.1.belowStep ((Below.refl _ _).alloc (Nat.le_refl _) _), ⟨hl, by have := hR5.out.2.lt; omega, Nat.le_refl _, by have := hR5.out.1.2.size; omega⟩, World.rowIs_alloc w5 _ _ _ (fr4_row _ _ _ _), hR5.out.2.alloc _⟩
  clear hR5
  go_wp2_with fail
  generalize w5.alloc (.cells #[.int .i64 u, .int .i64 (1 + k), .int .i64 q, .string b] 27) = w6 at *
  generalize w5.heap.size = F at *
  refine (one_any sb 12 _ HW.out.src (by omega)).mono ?_
  rintro e v1 ⟨⟨c1, rfl⟩, hD⟩
  have G1 : Hid (FrW w sb w.heap.size F v1) := HW.out.draw hD
  clear hD HW
  go_upto_if 17 with fail
  go_cut [] (fun wx => Hid (FrW w sb w.heap.size F wx))
  case first =>
    cases c1 with
    | false =>
      go_wp2_with fail
      go_meet
      exact G1.out
    | true =>
      go_wp2_with fail
      refine (n_any sb 3 _ G1.out.src (by omega)).mono ?_
      rintro e x1 ⟨⟨y, rfl, y0, y1, _⟩, hD⟩
      have y2 : y < 3 := y1 (by omega)
      have J : Hid (FrW w sb w.heap.size F x1) := G1.out.draw hD
      clear hD G1 y1
      go_wp2_with fail
      refine (bytes_any sb (63 + y) (by omega) (by omega) _ J.out.src).mono ?_
      rintro e x2 ⟨⟨bb, rfl, hbb⟩, hD⟩
      have J2 : Hid (FrW w sb w.heap.size F x2) := J.out.draw hD
      clear hD J
      obtain ⟨_, _, _, _, _, hV⟩ := J2.out
      obtain ⟨⟨a0, a1, a2, a3⟩, b0, b1, b2, b3⟩ := hV.cells
      clear hV
      have JS : Hid (FrW w sb w.heap.size F _) := J2.out.setB bb (by omega)
      clear J2
      go_wp2_with fail
      go_meet
      exact JS.out
  case rest =>
    clear G1
    have G1 := hcut
    clear hcut
    go_wp2_with fail
    refine (one_any sb 30 _ G1.out.src (by omega)).mono ?_
    rintro e v2 ⟨⟨c2, rfl⟩, hD⟩
    have G2 : Hid (FrW w sb w.heap.size F v2) := G1.out.draw hD
    clear hD G1
    go_upto_if 25 with fail
    go_cut [] (fun wx => Hid (FrW w sb w.heap.size F wx))
    case first =>
      cases c2 with
      | false =>
        go_wp2_with fail
        go_meet
        exact G2.out
      | true =>
        go_wp2_with fail
        refine (edge_any sb _ G2.out.src).mono ?_
        rintro e x1 ⟨⟨y, rfl, y0, y1⟩, hD⟩
        have J : Hid (FrW w sb w.heap.size F x1) := G2.out.draw hD
        clear hD G2
        obtain ⟨_, _, _, _, _, hV⟩ := J.out
        obtain ⟨⟨a0, a1, a2, a3⟩, b0, b1, b2, b3⟩ := hV.cells
        clear hV
        have JS : Hid (FrW w sb w.heap.size F _) := J.out.setU y ⟨y0, y1⟩
        clear J
        go_wp2_with fail
        go_meet
        exact JS.out
    case rest =>
      clear G2
      have G2 := hcut
      clear hcut
      go_wp2_with fail
      refine (one_any sb 30 _ G2.out.src (by omega)).mono ?_
      rintro e v3 ⟨⟨c3, rfl⟩, hD⟩
      have G3 : Hid (FrW w sb w.heap.size F v3) := G2.out.draw hD
      clear hD G2
      go_upto_if 30 with fail
      go_cut [] (fun wx => Hid (FrW w sb w.heap.size F wx))
      case first =>
        cases c3 with
        | false =>
          go_wp2_with fail
          go_meet
          exact G3.out
        | true =>
          go_wp2_with fail
          refine (edge_any sb _ G3.out.src).mono ?_
          rintro e x1 ⟨⟨y, rfl, y0, y1⟩, hD⟩
          have J : Hid (FrW w sb w.heap.size F x1) := G3.out.draw hD
          clear hD G3
          obtain ⟨_, _, _, _, _, hV⟩ := J.out
          obtain ⟨⟨a0, a1, a2, a3⟩, b0, b1, b2, b3⟩ := hV.cells
          clear hV
          have JS : Hid (FrW w sb w.heap.size F _) := J.out.setQ y ⟨y0, y1⟩
          clear J
          go_wp2_with fail
          go_meet
          exact JS.out
      case rest =>
        clear G3
        have G3 := hcut
        clear hcut
        go_wp2_with fail
        refine (one_any sb 30 _ G3.out.src (by omega)).mono ?_
        rintro e v4 ⟨⟨c4, rfl⟩, hD⟩
        have G4 : Hid (FrW w sb w.heap.size F v4) := G3.out.draw hD
        clear hD G3
        go_upto_if 35 with fail
        go_cut [] (fun wx => Hid (FrW w sb w.heap.size F wx))
        case first =>
          cases c4 with
          | false =>
            go_wp2_with fail
            go_meet
            exact G4.out
          | true =>
            go_wp2_with fail
            refine (n_any sb 12 _ G4.out.src (by omega)).mono ?_
            rintro e x1 ⟨⟨y, rfl, y0, y1, _⟩, hD⟩
            have y2 : y < 12 := y1 (by omega)
            have J : Hid (FrW w sb w.heap.size F x1) := G4.out.draw hD
            clear hD G4 y1
            obtain ⟨_, _, _, _, _, hV⟩ := J.out
            obtain ⟨⟨a0, a1, a2, a3⟩, b0, b1, b2, b3⟩ := hV.cells
            clear hV
            have JS : Hid (FrW w sb w.heap.size F _) := J.out.setK (y - 1) (by omega)
            clear J
            go_wp2_with fail
            go_meet
            exact JS.out
        case rest =>
          clear G4
          have G4 := hcut
          clear hcut
          obtain ⟨u9, k9, q9, b9, hin, hV⟩ := G4.out
          obtain ⟨⟨a0, a1, a2, a3⟩, f0, f1, f2, f3⟩ := hV.cells
          obtain ⟨⟨r0, r1, r2, r3⟩, g0, g1, g2, g3⟩ := hV.slot
          have HV := Lib.hid hV
          have HI := Lib.hid hin
          clear hV hin G4
          go_wp2_with fail
          exact bodyPost_ret (v := .agg #[.int .i64 u9, .int .i64 k9, .int .i64 q9, .string b9]) (by simp [results, Tryd.results33, go_sem, r0, r1, r2, r3]) rfl ⟨⟨u9, k9, q9, b9, rfl, HI.out⟩, (((HV.out.1.setNew hl (Nat.le_refl _) _).setNew hl (Nat.le_refl _) _).setNew hl (Nat.le_refl _) _).setNew hl (Nat.le_refl _) _⟩
end Go.Proofs.YtgkgpdionhfkmaaDoor
