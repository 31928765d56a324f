/-
  The contract of the draw of sewers.
-/
import Derived.Test.YtokbhkcpkilcmaaDoorSwDr
import Derived.Test.YtokbhkcpkilcmaaDoorSwS1
import Derived.Deep.Cut
import Derived.Deep.DeepCutAuto
namespace Go.Proofs.YtokbhkcpkilcmaaDoor
open Go.RowKit Go.Deep

/-- What the drawing of sewers keeps: the list so far, the source, the old memory. -/
def SQ (w : World) (sb : Nat) (v : Value) (n : Nat) (zs : List Int) (W : World) : Prop := W.ownsRow w.heap.size 55 6 v n (zs.map (Value.int .i64)) ∧ Drew sb w W ∧ sb < w.heap.size ∧ zs.length = n * 6
/-- A sewer's cell by its place. -/
def scV (r : Sw.Rc) (k : Nat) : Value := .int .i64 (scN r k)
/-- .. and the sewer that is drawn. -/
structure SD (w : World) (sb R : Nat) (v : Value) (n : Nat) (zs : List Int) (r : Sw.Rc) (W : World) : Prop where
  rl : SQ w sb v n zs W
  row : W.rowIs R 55 6 (scV r)
  far : w.heap.size ≤ R ∧ v.ownBlock ≠ some R
theorem SQ.draw {w : World} {sb n : Nat} {v : Value} {zs : List Int} {W W' : World} (h : SQ w sb v n zs W) (hd : Drew sb W W') : SQ w sb v n zs W' :=
  ⟨own_far h.1 (fun k hk hl => hd.2.2.2.2.2 k hl (by have := (h.1.lt k hk).1; have := h.2.2; omega)), ⟨hd.1, h.2.1.2.trans hd.2⟩, h.2.2⟩
theorem SQ.alloc {w : World} {sb n : Nat} {v : Value} {zs : List Int} {W : World} (h : SQ w sb v n zs W) (o : Obj) : SQ w sb v n zs (W.alloc o) := by
  have hb : Below W.heap.size W (W.alloc o) := (Below.refl _ _).alloc (Nat.le_refl _) _
  exact ⟨h.1.alloc _, ⟨h.2.1.1.below hb, h.2.1.2.trans (Chg.of_below hb)⟩, h.2.2⟩
def scL (r : Sw.Rc) : List Int := [r.kd, r.st, r.rm, r.fw, r.lp, r.dn]
theorem SQ.push {w : World} {sb n : Nat} {v v' : Value} {zs : List Int} {x : Sw.Rc} {W W' : World} {o : Obj} (h : SQ w sb v n zs W) (hg : (W.alloc o).grownBy W' v.ownBlock)
    (hown : W'.ownsRow w.heap.size 55 6 v' (n + 1) (zs.map (Value.int .i64) ++ [.int .i64 x.kd, .int .i64 x.st, .int .i64 x.rm, .int .i64 x.fw, .int .i64 x.lp, .int .i64 x.dn])) : SQ w sb v' (n + 1) (zs ++ scL x) W' := by
  have hz := h.2.1.2.size
  have hrow : ∀ k, v.ownBlock = some k → w.heap.size ≤ k := fun k e => (h.1.lt k e).1
  have hk : ∀ k, k < w.heap.size → W'.heap[k]? = W.heap[k]? := fun k hk => by
    rw [hg.block k (by simp; omega) (fun e => by have := hrow k e.symm; omega)]
    exact blk_alloc_lt _ _ _ (by omega)
  refine ⟨by rw [List.map_append]; exact hown, ⟨h.2.1.1.keep (fun k hk2 => hk k (by have := h.2.2; omega)), ?_⟩, h.2.2.1, by rw [List.length_append, h.2.2.2]; show _ + 6 = _; omega⟩
  exact ⟨hg.os.trans h.2.1.2.1, hg.tape.trans h.2.1.2.2.1, hg.output.trans h.2.1.2.2.2.1, by have := hg.size; simp at this; omega, fun k hk1 hk2 => (hk k hk1).trans (h.2.1.2.2.2.2.2 k hk1 hk2)⟩
section
variable {w : World} {sb R n : Nat} {v : Value} {zs : List Int} {r : Sw.Rc} {W W' : World}
theorem SD.draw (h : SD w sb R v n zs r W) (hd : Drew sb W W') : SD w sb R v n zs r W' :=
  ⟨h.rl.draw hd, h.row.of_block (hd.2.2.2.2.2 R h.row.lt (by have := h.far.1; have := h.rl.2.2; omega)), h.far⟩
theorem SD.set {r' : Sw.Rc} (h : SD w sb R v n zs r W) (k : Nat) (x : Int) (e : ∀ j, j < 6 → (if j = k then .int .i64 x else scV r j) = scV r' j) : SD w sb R v n zs r' (W.setCell ⟨R, k, none⟩ (.int .i64 x)) := by
  refine ⟨⟨own_far h.rl.1 (fun j hj _ => blk_setCell_other _ _ _ _ (by show j ≠ R; intro e; subst e; exact h.far.2 hj)), ⟨h.rl.2.1.1.keep (fun j hj => blk_setCell_other _ _ _ _ (by show j ≠ R; have := h.far.1; have := h.rl.2.2; omega)), ?_⟩, h.rl.2.2⟩, row_congr' (h.row.set k _) e, h.far⟩
  exact ⟨h.rl.2.1.2.1, h.rl.2.1.2.2.1, h.rl.2.1.2.2.2.1, by have := h.rl.2.1.2.size; simpa using this, fun j hj1 hj2 => (blk_setCell_other _ _ _ _ (by show j ≠ R; have := h.far.1; omega)).trans (h.rl.2.1.2.2.2.2.2 j hj1 hj2)⟩
where
  row_congr' {w : World} {b t n : Nat} {f g : Nat → Value} (h : w.rowIs b t n f) (e : ∀ i, i < n → f i = g i) : w.rowIs b t n g := by
    obtain ⟨c, h1, h2, h3⟩ := h
    exact ⟨c, h1, h2, fun i hi => by rw [h3 i hi, e i hi]⟩
theorem SD.set0 (h : SD w sb R v n zs r W) (x : Int) : SD w sb R v n zs { r with kd := x } (W.setCell ⟨R, 0, none⟩ (.int .i64 x)) := h.set 0 x (fun j hj => by
  have : j = 0 ∨ j = 1 ∨ j = 2 ∨ j = 3 ∨ j = 4 ∨ j = 5 := by omega
  rcases this with rfl | rfl | rfl | rfl | rfl | rfl <;> simp [scV, scN])
theorem SD.set1 (h : SD w sb R v n zs r W) (x : Int) : SD w sb R v n zs { r with st := x } (W.setCell ⟨R, 1, none⟩ (.int .i64 x)) := h.set 1 x (fun j hj => by
  have : j = 0 ∨ j = 1 ∨ j = 2 ∨ j = 3 ∨ j = 4 ∨ j = 5 := by omega
  rcases this with rfl | rfl | rfl | rfl | rfl | rfl <;> simp [scV, scN])
theorem SD.set3 (h : SD w sb R v n zs r W) (x : Int) : SD w sb R v n zs { r with fw := x } (W.setCell ⟨R, 3, none⟩ (.int .i64 x)) := h.set 3 x (fun j hj => by
  have : j = 0 ∨ j = 1 ∨ j = 2 ∨ j = 3 ∨ j = 4 ∨ j = 5 := by omega
  rcases this with rfl | rfl | rfl | rfl | rfl | rfl <;> simp [scV, scN])
theorem SD.set4 (h : SD w sb R v n zs r W) (x : Int) : SD w sb R v n zs { r with lp := x } (W.setCell ⟨R, 4, none⟩ (.int .i64 x)) := h.set 4 x (fun j hj => by
  have : j = 0 ∨ j = 1 ∨ j = 2 ∨ j = 3 ∨ j = 4 ∨ j = 5 := by omega
  rcases this with rfl | rfl | rfl | rfl | rfl | rfl <;> simp [scV, scN])
theorem SD.set5 (h : SD w sb R v n zs r W) (x : Int) : SD w sb R v n zs { r with dn := x } (W.setCell ⟨R, 5, none⟩ (.int .i64 x)) := h.set 5 x (fun j hj => by
  have : j = 0 ∨ j = 1 ∨ j = 2 ∨ j = 3 ∨ j = 4 ∨ j = 5 := by omega
  rcases this with rfl | rfl | rfl | rfl | rfl | rfl <;> simp [scV, scN])
theorem SD.cells (h : SD w sb R v n zs r W) : (W.cell? ⟨R, 0, none⟩ = some (.int .i64 r.kd) ∧ W.cell? ⟨R, 1, none⟩ = some (.int .i64 r.st) ∧ W.cell? ⟨R, 2, none⟩ = some (.int .i64 r.rm) ∧ W.cell? ⟨R, 3, none⟩ = some (.int .i64 r.fw) ∧ W.cell? ⟨R, 4, none⟩ = some (.int .i64 r.lp) ∧ W.cell? ⟨R, 5, none⟩ = some (.int .i64 r.dn)) ∧ (W.frozen? ⟨R, 0, none⟩ = false ∧ W.frozen? ⟨R, 1, none⟩ = false ∧ W.frozen? ⟨R, 3, none⟩ = false ∧ W.frozen? ⟨R, 4, none⟩ = false ∧ W.frozen? ⟨R, 5, none⟩ = false) ∧ R < W.heap.size :=
  ⟨⟨h.row.cell (i := 0) (by omega), h.row.cell (i := 1) (by omega), h.row.cell (i := 2) (by omega), h.row.cell (i := 3) (by omega), h.row.cell (i := 4) (by omega), h.row.cell (i := 5) (by omega)⟩, ⟨h.row.frozen 0, h.row.frozen 1, h.row.frozen 3, h.row.frozen 4, h.row.frozen 5⟩, h.row.lt⟩
end
theorem sd_start {w : World} {sb n : Nat} {v : Value} {zs : List Int} {W : World} (h : SQ w sb v n zs W) (a b c d e f : Int) : SD w sb W.heap.size v n zs ⟨a, b, c, d, e, f⟩ (W.alloc (.cells #[.int .i64 a, .int .i64 b, .int .i64 c, .int .i64 d, .int .i64 e, .int .i64 f] 55)) :=
  ⟨h.alloc _, World.rowIs_alloc W #[.int .i64 a, .int .i64 b, .int .i64 c, .int .i64 d, .int .i64 e, .int .i64 f] 55 _ (fun i hi => by
    have hv : i = 0 ∨ i = 1 ∨ i = 2 ∨ i = 3 ∨ i = 4 ∨ i = 5 := by simp at hi; omega
    rcases hv with rfl | rfl | rfl | rfl | rfl | rfl <;> rfl), h.2.1.2.size, fun e => by have := (h.1.lt _ e).2; omega⟩
theorem sq_start {w w1 : World} {sb : Nat} (h : Drew sb w w1) (hlt : sb < w.heap.size) : SQ w sb (.slice (some ⟨w1.heap.size, 0, none⟩) 0 0) 0 [] (w1.alloc (.cells #[] 55)) := by
  have hb : Below w1.heap.size w1 (w1.alloc (.cells #[] 55)) := (Below.refl _ _).alloc (Nat.le_refl _) _
  exact ⟨World.ownsRow_made w1 #[] 0 h.2.size (Nat.zero_le _) rfl, ⟨h.1.below hb, h.2.trans (Chg.of_below hb)⟩, hlt, rfl⟩

set_option maxRecDepth 100000 in
set_option maxHeartbeats 16000000 in
theorem sewers_any (sb : Nat) (w : World) (h : Src sb w) :
    Calls Tryd.prog 45 #[.pointer (some ⟨sb, 0, none⟩)] w fun e w' => ∃ v, e = .returned v ∧ ∃ (n : Nat) (zs : List Int), 1 ≤ n ∧ n ≤ 41 ∧ SQ w sb v n zs w' := by
  have H : Hid (Src sb w) := h
  have hlt := h.lt
  obtain ⟨i0, hi0, hz0, hz1, hz2⟩ := info_parts info_rc
  obtain ⟨sz, hsz, sz0, sz1⟩ : ∃ sz : Int, w.cell? ⟨sb, 3, none⟩ = some (.int .i64 sz) ∧ 0 ≤ sz ∧ sz ≤ 12 := by
    obtain ⟨a, len, cap, at_, mix, size, hc, _, _, _, h4, h5, _⟩ := h
    exact ⟨size, hc.2.2.2.1, h4, h5⟩
  clear h
  go_enter Tryd.func45, Tryd.ntmps45
  go_wp2_with fail
  refine (n_any sb _ _ H.out (by omega)).mono ?_
  rintro e w1 ⟨⟨u, rfl, u0, u1, _⟩, hD⟩
  have u2 : u ≤ 20 := by
    have := u1 (by omega)
    omega
  have D1 := Lib.hid hD
  clear hD u1 hsz
  go_wp2_with fail
  refine (one_any sb 40 _ D1.out.1 (by omega)).mono ?_
  rintro e w2 ⟨⟨b, rfl⟩, hD⟩
  have D2 : Hid (Drew sb w w2) := ⟨hD.1, D1.out.2.trans hD.2⟩
  clear hD D1
  go_upto_if 17 with fail
  go_cut [3] from 18 to 20 (fun nv wx => ∃ N : Nat, nv = .int .i64 N ∧ 1 ≤ N ∧ N ≤ 41 ∧ Hid (Drew sb w wx))
  case first =>
    cases b
    · go_wp2_with fail
      go_meet
      case rel => exact ⟨(1 + u).toNat, by rw [Int.toNat_of_nonneg (by omega)], by omega, by omega, D2⟩
    · go_wp2_with fail
      refine (n_any sb 3 _ D2.out.1 (by omega)).mono ?_
      rintro e w3 ⟨⟨y, rfl, y0, y1, _⟩, hD⟩
      have y2 : y < 3 := y1 (by omega)
      have D3 : Hid (Drew sb w w3) := ⟨hD.1, D2.out.2.trans hD.2⟩
      clear hD y1 D2
      go_wp2_with fail
      go_meet
      case rel => exact ⟨(39 + y).toNat, by rw [Int.toNat_of_nonneg (by omega)], by omega, by omega, D3⟩
  case rest =>
    obtain ⟨N, rfl, n0, n1, hN⟩ := hcut
    clear D2 u0 u2 sz0 sz1
    obtain ⟨w4, hw4⟩ : ∃ w', w' = wc := ⟨_, rfl⟩
    rw [← hw4] at hN ⊢
    clear hw4
    have HST := Lib.hid (sq_start hN.out hlt)
    clear hN
    go_wp2_with fail
    go_loopw [4, 5] (fun ov iv wr => ∃ (i : Nat) (zs : List Int), iv = .int .i64 i ∧ i ≤ N ∧ Hid (SQ w sb ov i zs wr)) (fun _ iv _ => N - (intOf iv).toNat)
    case atStart => exact ⟨0, [], rfl, Nat.zero_le _, HST⟩
    case round =>
      obtain ⟨i, zs, rfl, hi, HF⟩ := hrel
      clear HST
      obtain ⟨av, cv, rfl⟩ := own_shape HF.out.1
      by_cases hlt2 : i < N
      · have hltz : (i : Int) < (N : Int) := by omega
        go_wp2_with fail
        refine (n_any sb 3 _ HF.out.2.1.1 (by omega)).mono ?_
        rintro e x1 ⟨⟨k1, rfl, k10, k11, _⟩, hD⟩
        have k12 := k11 (by omega)
        replace HF := Lib.hid (HF.out.draw hD)
        clear hD k11
        go_wp2_with fail
        refine (n_any sb 300 _ HF.out.2.1.1 (by omega)).mono ?_
        rintro e x2 ⟨⟨k2, rfl, k20, k21, _⟩, hD⟩
        have k22 := k21 (by omega)
        replace HF := Lib.hid (HF.out.draw hD)
        clear hD k21
        go_wp2_with fail
        refine (n_any sb 120 _ HF.out.2.1.1 (by omega)).mono ?_
        rintro e x3 ⟨⟨k3, rfl, k30, k31, _⟩, hD⟩
        have k32 := k31 (by omega)
        replace HF := Lib.hid (HF.out.draw hD)
        clear hD k31
        go_wp2_with fail
        refine (n_any sb 60 _ HF.out.2.1.1 (by omega)).mono ?_
        rintro e x4 ⟨⟨k4, rfl, k40, k41, _⟩, hD⟩
        have k42 := k41 (by omega)
        replace HF := Lib.hid (HF.out.draw hD)
        clear hD k41
        have HSD := Lib.hid (sd_start HF.out (1 + k1) 0 k2 k3 k4 (-1))
        clear HF
        go_upto_region 9 with fail
        obtain ⟨x5, hx5⟩ : ∃ x, x = x4.alloc (.cells #[.int .i64 (1 + k1), .int .i64 0, .int .i64 k2, .int .i64 k3, .int .i64 k4, .int .i64 (-1)] 55) := ⟨_, rfl⟩
        rw [← hx5] at HSD ⊢
        clear hx5
        generalize x4.heap.size = R at *
        obtain ⟨⟨c0, c1, c2, c3, c4, c5⟩, ⟨f0, f1, f3, f4, f5⟩, lR⟩ := HSD.out.cells
        go_wp2_with fail
        refine (n_any sb _ _ HSD.out.rl.2.1.1 (by omega)).mono ?_
        rintro e x6 ⟨⟨k5, rfl, k50, _, _⟩, hD⟩
        replace HSD := Lib.hid (HSD.out.draw hD)
        clear hD c0 c1 c2 c3 c4 c5 f0 f1 f3 f4 f5 lR
        obtain ⟨⟨c0, c1, c2, c3, c4, c5⟩, ⟨f0, f1, f3, f4, f5⟩, lR⟩ := HSD.out.cells
        have HS2 := Lib.hid (HSD.out.set1 k5)
        clear HSD
        go_upto_region 10 with fail
        obtain ⟨x7, hx7⟩ : ∃ x, x = x6.setCell ⟨R, 1, none⟩ (.int .i64 k5) := ⟨_, rfl⟩
        rw [← hx7] at HS2 ⊢
        clear hx7 c0 c1 c2 c3 c4 c5 f0 f1 f3 f4 f5 lR
        go_cut [51] from 43 to 50 (fun tv wx => ∃ b : Bool, tv = .bool b ∧ Hid (b = true → (i : Int) < (N : Int) - 1) ∧ Hid (SD w sb R (.slice av i cv) i zs ⟨1 + k1, k5, k2, k3, k4, -1⟩ wx))
        case first =>
          clear i0 hi0 hz0 hz1 hz2
          by_cases hd : (i : Int) < (N : Int) - 1
          · have HDD := Lib.hid hd
            go_wp2_with fail
            refine (one_any sb 6 _ HS2.out.rl.2.1.1 (by omega)).mono ?_
            rintro e x8 ⟨⟨b6, rfl⟩, hD⟩
            replace HS2 := Lib.hid (HS2.out.draw hD)
            clear hD
            go_wp2_with fail
            go_meet
            case rel => exact ⟨_, rfl, fun _ => HDD.out, HS2⟩
          · go_wp2_with fail
            go_meet
            case rel => exact ⟨false, rfl, (fun h => by cases h), HS2⟩
        case rest =>
        obtain ⟨b6, rfl, HDD, hS6⟩ := hcut
        obtain ⟨x8, hx8⟩ : ∃ w', w' = wc := ⟨_, rfl⟩
        rw [← hx8] at hS6 ⊢
        clear hx8 HS2
        have HS2 := hS6
        clear hS6
        go_upto_if 51 with fail
        go_cut [] from 52 to 62 (fun wx => ∃ r : Sw.Rc, (0 ≤ r.rm ∧ r.rm ≤ 300) ∧ Hid (SD w sb R (.slice av i cv) i zs r wx))
        case first =>
          clear i0 hi0 hz0 hz1 hz2
          cases b6
          · go_wp2_with fail
            go_meet
            case rel => exact ⟨_, ⟨k20, by show k2 ≤ 300; omega⟩, HS2⟩
          · have hd := HDD.out rfl
            go_wp2_with fail
            refine (specMin 4 ((N : Int) - 1 - (i : Int)) _).mono ?_
            rintro e x9 ⟨rfl, hw9⟩
            subst x9
            go_wp2_with fail
            refine (n_any sb _ _ HS2.out.rl.2.1.1 (by omega)).mono ?_
            rintro e x9 ⟨⟨k6, rfl, k60, k61, k62⟩, hD⟩
            have k63 : k6 ≤ 4 := by
              by_cases hq : 1 < min 4 ((N : Int) - 1 - (i : Int))
              · have := k61 hq; omega
              · have := k62 (by omega); omega
            replace HS2 := Lib.hid (HS2.out.draw hD)
            clear hD k61 k62
            obtain ⟨⟨c0, c1, c2, c3, c4, c5⟩, ⟨f0, f1, f3, f4, f5⟩, lR⟩ := HS2.out.cells
            have HS3 := Lib.hid (HS2.out.set5 ((i : Int) + 1 + k6))
            clear HS2
            go_wp2_with fail
            go_meet
            case rel => exact ⟨_, ⟨k20, by show k2 ≤ 300; omega⟩, HS3⟩
        case rest =>
          obtain ⟨r, ⟨rm0, rm1⟩, hS⟩ := hcut
          obtain ⟨y0, hy0⟩ : ∃ w', w' = wc := ⟨_, rfl⟩
          rw [← hy0] at hS ⊢
          clear hy0 HS2 k10 k12 k20 k22 k30 k32 k40 k42 k50
          go_wp2_with fail
          refine (one_any sb 60 _ hS.out.rl.2.1.1 (by omega)).mono ?_
          rintro e y1 ⟨⟨b7, rfl⟩, hD⟩
          have HS := Lib.hid (hS.out.draw hD)
          clear hD hS
          go_upto_if 64 with fail
          go_cut [] from 65 to 89 (fun wx => ∃ r : Sw.Rc, Hid (SD w sb R (.slice av i cv) i zs r wx))
          case first =>
            clear i0 hi0 hz0 hz1 hz2
            cases b7
            · go_wp2_with fail
              go_meet
              case rel => exact ⟨_, HS⟩
            · go_wp2_with fail
              refine (n_any sb 5 _ HS.out.rl.2.1.1 (by omega)).mono ?_
              rintro e y2 ⟨⟨k7, rfl, k70, k71, _⟩, hD⟩
              have k72 := k71 (by omega)
              replace HS := Lib.hid (HS.out.draw hD)
              clear hD k71
              obtain ⟨⟨c0, c1, c2, c3, c4, c5⟩, ⟨f0, f1, f3, f4, f5⟩, lR⟩ := HS.out.cells
              have k7c : k7 = 0 ∨ k7 = 1 ∨ k7 = 2 ∨ k7 = 3 ∨ k7 = 4 := by omega
              clear k70 k72
              rcases k7c with rfl | rfl | rfl | rfl | rfl
              · clear c0 c1 c2 c3 c4 c5 f0 f1 f3 f4 f5 lR
                go_wp2_with fail
                refine (n_any sb 2 _ HS.out.rl.2.1.1 (by omega)).mono ?_
                rintro e y3 ⟨⟨k8, rfl, k80, k81, _⟩, hD⟩
                have k82 := k81 (by omega)
                replace HS := Lib.hid (HS.out.draw hD)
                clear hD k81
                obtain ⟨⟨c0, c1, c2, c3, c4, c5⟩, ⟨f0, f1, f3, f4, f5⟩, lR⟩ := HS.out.cells
                have HS3 := Lib.hid (HS.out.set0 (4 * k8))
                clear HS
                go_wp2_with fail
                go_meet
                case rel => exact ⟨_, HS3⟩
              · have HS3 := Lib.hid (HS.out.set1 (r.rm + 1))
                clear HS
                go_wp2_with fail
                go_meet
                case rel => exact ⟨_, HS3⟩
              · clear c0 c1 c2 c3 c4 c5 f0 f1 f3 f4 f5 lR
                go_wp2_with fail
                refine (n_any sb 2 _ HS.out.rl.2.1.1 (by omega)).mono ?_
                rintro e y3 ⟨⟨k8, rfl, k80, k81, _⟩, hD⟩
                have k82 := k81 (by omega)
                replace HS := Lib.hid (HS.out.draw hD)
                clear hD k81
                obtain ⟨⟨c0, c1, c2, c3, c4, c5⟩, ⟨f0, f1, f3, f4, f5⟩, lR⟩ := HS.out.cells
                have HS3 := Lib.hid (HS.out.set3 (1000000 + k8))
                clear HS
                go_wp2_with fail
                go_meet
                case rel => exact ⟨_, HS3⟩
              · have HS3 := Lib.hid (HS.out.set5 (i : Int))
                clear HS
                go_wp2_with fail
                go_meet
                case rel => exact ⟨_, HS3⟩
              · have HS3 := Lib.hid (HS.out.set4 (-1))
                clear HS
                go_wp2_with fail
                go_meet
                case rel => exact ⟨_, HS3⟩
          case rest =>
            obtain ⟨r2, hS⟩ := hcut
            obtain ⟨y0, hy0⟩ : ∃ w', w' = wc := ⟨_, rfl⟩
            rw [← hy0] at hS ⊢
            clear hy0 HS
            obtain ⟨⟨c0, c1, c2, c3, c4, c5⟩, ⟨f0, f1, f3, f4, f5⟩, lR⟩ := hS.out.cells
            have zw := hS.out.rl.2.1.2.size
            have hzl := hS.out.rl.2.2.2
            have HZL := Lib.hid hzl
            clear hzl
            go_wp2_with (at_builtin; refine wpList_append_own _ rfl _ _ 25 rfl w.heap.size 55 i0 (.agg #[.int .i64 0, .int .i64 0, .int .i64 0, .int .i64 0, .int .i64 0, .int .i64 0]) 6 48 Tryd.underlying25 hi0 hz0 hz1 hz2 rfl (by decide) _ _ _ rfl (hS.out.rl.1.alloc _) ⟨y0.heap.size, 0, none⟩ 1 1 [.int .i64 r2.kd, .int .i64 r2.st, .int .i64 r2.rm, .int .i64 r2.fw, .int .i64 r2.lp, .int .i64 r2.dn] rfl rfl ?e1 ?e2 ?e3 ?e4 ?e5 ?_)
            try (case e1 => (intro j u hj; match j, hj with
              | 0, hj => (simp at hj; subst hj; simp [Addr.add])
              | 1, hj => (simp at hj; subst hj; simp [Addr.add])
              | 2, hj => (simp at hj; subst hj; simp [Addr.add])
              | 3, hj => (simp at hj; subst hj; simp [Addr.add])
              | 4, hj => (simp at hj; subst hj; simp [Addr.add])
              | 5, hj => (simp at hj; subst hj; simp [Addr.add])))
            try (case e2 => (intro u hu; simp at hu; rcases hu with rfl | rfl | rfl | rfl | rfl | rfl <;> rfl))
            try (case e3 => (unfold maxLen; omega))
            try (case e4 => omega)
            try (case e5 => first | omega | (simp; omega))
            intro v' y3 hown hgrow hnil
            have HF2 : Hid (SQ w sb v' (i + 1) (zs ++ scL r2) y3) := hS.out.rl.push hgrow hown
            clear hown hgrow hnil hS c0 c1 c2 c3 c4 c5 f0 f1 f3 f4 f5 lR
            go_wp2_with fail
            go_roundw
            case rel => exact ⟨i + 1, _, by go_num, by omega, HF2⟩
            case measure => simp [intOf]; omega
      · obtain rfl : i = N := by omega
        go_wp2_with fail
        go_ret
        exact ⟨_, rfl, i, zs, n0, n1, HF.out⟩
end Go.Proofs.YtokbhkcpkilcmaaDoor
