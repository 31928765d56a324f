/-
  The law FnFrames.
-/
import Derived.Test.YtgkgpdionhfkmaaDoorFramesMath
import Derived.Test.YtgkgpdionhfkmaaDoorFrI2
import Derived.Test.YtgkgpdionhfkmaaDoorFrI9
import Derived.Test.YtgkgpdionhfkmaaDoorReg
import Derived.BigRegion
namespace Go.Proofs.YtgkgpdionhfkmaaDoor
open Go.RowKit Go.Deep

theorem out_cells (fs : List FrD) : (fs.map FrD.out).flatMap outCells = fs.flatMap FrD.cells := by
  induction fs with
  | nil => rfl
  | cons f fs ih =>
    rw [List.map_cons, List.flatMap_cons, List.flatMap_cons, ih]
    rfl
theorem ownF_form {B : Nat} {v : Value} {fs : List FrD} {W : World} (h : W.ownsRow B 27 4 v fs.length (fs.flatMap FrD.cells)) : ∃ a cap, v = .slice a fs.length cap := by
  rcases h.2 with h2 | ⟨g, cap, cur, e1, _⟩
  · exact ⟨none, 0, by rw [h2.1, h2.2]⟩
  · exact ⟨_, _, e1⟩

theorem keepRows {W0 W W' : World} {X g g' a : Nat} {x y0 y1 y2 y3 z0 z1 z2 z3 : Value} (hb : Below W.heap.size W W') (h : W.cell? ⟨X, 0, none⟩ = some x ∧ W.cell? ⟨g', a, none⟩ = some y0 ∧ W.cell? ⟨g', a + 1, none⟩ = some y1 ∧ W.cell? ⟨g', a + 2, none⟩ = some y2 ∧ W.cell? ⟨g', a + 3, none⟩ = some y3 ∧ W.cell? ⟨g, a, none⟩ = some z0 ∧ W.cell? ⟨g, a + 1, none⟩ = some z1 ∧ W.cell? ⟨g, a + 2, none⟩ = some z2 ∧ W.cell? ⟨g, a + 3, none⟩ = some z3 ∧ Hid (Below W0.heap.size W0 W)) :
    W'.cell? ⟨X, 0, none⟩ = some x ∧ W'.cell? ⟨g', a, none⟩ = some y0 ∧ W'.cell? ⟨g', a + 1, none⟩ = some y1 ∧ W'.cell? ⟨g', a + 2, none⟩ = some y2 ∧ W'.cell? ⟨g', a + 3, none⟩ = some y3 ∧ W'.cell? ⟨g, a, none⟩ = some z0 ∧ W'.cell? ⟨g, a + 1, none⟩ = some z1 ∧ W'.cell? ⟨g, a + 2, none⟩ = some z2 ∧ W'.cell? ⟨g, a + 3, none⟩ = some z3 ∧ Hid (Below W0.heap.size W0 W') := by
  obtain ⟨h0, h1, h2, h3, h4, h5, h6, h7, h8, hB⟩ := h
  have k : ∀ {p : Addr} {v : Value}, W.cell? p = some v → W'.cell? p = some v := fun h => (hb.cell (World.block_lt_of_cell? _ _ h)).trans h
  exact ⟨k h0, k h1, k h2, k h3, k h4, k h5, k h6, k h7, k h8, hB.out.trans (hb.mono hB.out.size)⟩

set_option linter.unusedSimpArgs false in
set_option maxRecDepth 100000 in
set_option maxHeartbeats 4000000 in
theorem frames_law (a : Option Addr) (len cap : Nat) (w : World) (h : Bytes a len w) (hl : len ≤ 1048576) (hg0 : Et w) :
    Calls Tryd.prog 3 #[.slice a len cap] w fun e w' => e = .returned (.bool true) ∧ Below w.heap.size w w' := by
  have z1 : ¬ (1048576 : Int) < (len : Int) := by omega
  have H := Lib.hid h
  have HG := Lib.hid hg0
  clear h hg0
  go_enter Tryd.func3, Tryd.ntmps3
  go_wp2_with fail
  refine (lwFrames_any a len cap _ H.out hl).mono ?_
  rintro e w1 ⟨v, rfl, fs, hfl, hright, hown, hb⟩
  have HB1 : Hid (Below w.heap.size w w1) := hb
  have HO : Hid (w1.ownsRow w.heap.size 27 4 v fs.length (fs.flatMap FrD.cells)) := hown.1
  have HR : Hid (∀ f ∈ fs, f.right) := hright
  obtain ⟨av, cv, rfl⟩ := ownF_form hown.1
  clear hb hown hright
  go_wp2_with fail
  go_loopw [4, 5] (fun tv iv wr => ∃ (i : Nat) (T : ByteArray), i ≤ fs.length ∧ tv = .string T ∧ iv = .int .i64 i ∧ Hid (T.data.toList = texts (fs.take i)) ∧ Hid (Below w1.heap.size w1 wr)) (fun _ iv _ => fs.length - (intOf iv).toNat)
  case atStart => exact ⟨0, ⟨#[]⟩, Nat.zero_le _, rfl, rfl, rfl, Below.refl _ _⟩
  case round =>
    obtain ⟨i, T, hi, rfl, rfl, hT, hB⟩ := hrel
    by_cases hlt : i < fs.length
    · have hltz : (i : Int) < (fs.length : Int) := by omega
      obtain ⟨f, hf⟩ : ∃ f, fs[i]? = some f := ⟨_, List.getElem?_eq_getElem hlt⟩
      have hO2 := ownsRow_block HO.out (W' := wr) (fun k _ hk => hB.out.block k hk)
      obtain ⟨g, cp, e1, c0, c1, c2, c3⟩ := row_frame hO2 i f hf
      obtain ⟨rfl, rfl⟩ : av = some ⟨g, 0, none⟩ ∧ cv = cp := by
        injection e1 with x1 x2 x3; exact ⟨x1, x3⟩
      clear e1 hO2
      have hr : f.right := HR.out f (List.mem_of_getElem? hf)
      have HT1 := Lib.hid (fun wx => implFrText_yes f.u f.k f.q f.b wx hr)
      have HF := Lib.hid hf
      clear hf hr
      go_wp2_with fail
      refine (HT1.out _).mono ?_
      rintro e w2 ⟨rfl, hb⟩
      have HB2 : Hid (Below w1.heap.size w1 w2) := hB.out.trans (hb.mono hB.out.size)
      clear hb hB HT1 c0 c1 c2 c3
      obtain ⟨X, hX⟩ : ∃ X : ByteArray, X = ⟨(Fr.text f.u f.k f.q f.b.data.toList).toArray⟩ := ⟨_, rfl⟩
      rw [← hX]
      have hT2 : Hid ((T ++ X).data.toList = texts (fs.take (i + 1))) := by
        show _ = _
        have e : fs.take (i + 1) = fs.take i ++ [f] := by
          rw [List.take_add_one, HF.out]; rfl
        rw [e, texts_snoc, ← hT.out, hX]
        simp
      have hTz : T.size ≤ 288 := by
        show T.data.toList.length ≤ 288
        rw [hT.out]
        have h1 := texts_len (fs.take i) (fun g hg => HR.out g (List.mem_of_mem_take hg))
        rw [List.length_take] at h1
        omega
      have hXz : X.size ≤ 72 := by
        show X.data.toList.length ≤ 72
        rw [hX]
        have h1 := texts_len [f] (fun g hg => by
          obtain rfl := List.mem_singleton.1 hg
          exact HR.out g (List.mem_of_getElem? HF.out))
        simpa [texts] using h1
      clear hX hT
      go_wp2_with fail
      go_roundw
      case rel => exact ⟨i + 1, T ++ X, by omega, rfl, by go_num, hT2, HB2⟩
      case measure => simp [intOf]; omega
    · obtain rfl : i = fs.length := by omega
      have hT3 : T.data.toList = texts fs := by rw [hT.out, List.take_length]
      have hTs : T.size ≤ 20000 := by
        show T.data.toList.length ≤ 20000
        rw [hT3]
        have := texts_len fs HR.out
        omega
      have HK := Lib.hid (fun wx (hx : Et wx) => implScan_any T hTs wx hx)
      rw [hT3, scan_texts fs HR.out] at HK
      simp only [out_cells, List.length_map] at HK
      clear hT hT3 hTs
      go_wp2_with fail
      refine (HK.out _ (HG.out.below (HB1.out.trans (hB.out.mono HB1.out.size)))).mono ?_
      rintro e w2 ⟨v2, rfl, hown2, hb⟩
      have HO2 := Lib.hid hown2
      obtain ⟨ax, cx, rfl⟩ := ownF_form hown2
      have HB2 : Hid (Below w1.heap.size w1 w2) := hB.out.trans (hb.mono hB.out.size)
      clear hown2 hb hB HK
      go_wp2_with fail
      clear hlt hi
      have HO1 : Hid (w2.ownsRow w.heap.size 27 4 (.slice av fs.length cv) fs.length (fs.flatMap FrD.cells)) := ownsRow_block HO.out (fun k _ hk => HB2.out.block k hk)
      have HBw : Hid (Below w.heap.size w w2) := HB1.out.trans (HB2.out.mono HB1.out.size)
      obtain ⟨W0, hW0⟩ : ∃ W0 : World, W0 = w2.alloc (.cells #[.slice ax fs.length cx, .int .i64 0, .int .i64 0, .int .i64 0] 29) := ⟨_, rfl⟩
      have hx0 : Hid (W0.cell? ⟨w2.heap.size, 0, none⟩ = some (.slice ax fs.length cx)) := by show _ = _; rw [hW0]; simp
      have HP1 : Hid (W0.ownsRow w.heap.size 27 4 (.slice av fs.length cv) fs.length (fs.flatMap FrD.cells)) := by rw [hW0]; exact HO1.out.alloc _
      have HP2 : Hid (W0.ownsRow wr.heap.size 27 4 (.slice ax fs.length cx) fs.length (fs.flatMap FrD.cells)) := by rw [hW0]; exact HO2.out.alloc _
      have HB0 : Hid (Below w.heap.size w W0) := by rw [hW0]; exact HBw.out.alloc HBw.out.size _
      rw [← hW0]
      clear hW0 HO1 HO2 HBw HB2 HB1 HO HR
      generalize w2.heap.size = X at *
      go_loopw [7] (fun iv wr => ∃ (i : Nat), i ≤ fs.length ∧ iv = .int .i64 i ∧ Hid (Below W0.heap.size W0 wr)) (fun iv _ => fs.length - (intOf iv).toNat)
      case atStart => exact ⟨0, Nat.zero_le _, rfl, Below.refl _ _⟩
      case round =>
        obtain ⟨i, hi, rfl, hB⟩ := hrel
        by_cases hlt : i < fs.length
        · have hltz : (i : Int) < (fs.length : Int) := by omega
          obtain ⟨f, hf⟩ : ∃ f, fs[i]? = some f := ⟨_, List.getElem?_eq_getElem hlt⟩
          obtain ⟨g, cp, e1, c0, c1, c2, c3⟩ := row_frame (ownsRow_block HP1.out (fun k _ hk => hB.out.block k hk)) i f hf
          obtain ⟨rfl, rfl⟩ : av = some ⟨g, 0, none⟩ ∧ cv = cp := by
            injection e1 with x1 x2 x3; exact ⟨x1, x3⟩
          obtain ⟨g', cp', e2, d0, d1, d2, d3⟩ := row_frame (ownsRow_block HP2.out (fun k _ hk => hB.out.block k hk)) i f hf
          obtain ⟨rfl, rfl⟩ : ax = some ⟨g', 0, none⟩ ∧ cx = cp' := by
            injection e2 with x1 x2 x3; exact ⟨x1, x3⟩
          have x0 := (hB.out.cell (World.block_lt_of_cell? _ _ hx0.out)).trans hx0.out
          clear e1 e2 hf
          go_wp2_with fail
          refine wp_region_held_drew (S := (fun w' => w'.cell? ⟨X, 0, none⟩ = some (.slice (some ⟨g', 0, none⟩) fs.length cx) ∧ w'.cell? ⟨g', i * 4, none⟩ = some (.int .i64 f.u) ∧ w'.cell? ⟨g', i * 4 + 1, none⟩ = some (.int .i64 f.k) ∧ w'.cell? ⟨g', i * 4 + 2, none⟩ = some (.int .i64 f.q) ∧ w'.cell? ⟨g', i * 4 + 3, none⟩ = some (.string f.b) ∧ w'.cell? ⟨g, i * 4, none⟩ = some (.int .i64 f.u) ∧ w'.cell? ⟨g, i * 4 + 1, none⟩ = some (.int .i64 f.k) ∧ w'.cell? ⟨g, i * 4 + 2, none⟩ = some (.int .i64 f.q) ∧ w'.cell? ⟨g, i * 4 + 3, none⟩ = some (.string f.b) ∧ Hid (Below W0.heap.size W0 w'))) (by kernel_rfl) (keepRows (Below.refl _ _).drew ⟨x0, d0, d1, d2, d3, c0, c1, c2, c3, hB⟩) (fun hHeld => ?_)
          clear x0 d0 d1 d2 d3 c0 c1 c2 c3 hB
          refine take_do (i := 0) (v := .pointer (some ⟨X, 0, none⟩)) rfl (by kernel_rfl) (by kernel_rfl) (by kernel_rfl) (fun _ _ _ h => h) (by rfl) ?_ (by assumption) ?_
          · intro w hSw
            go_simp
          simp only [Act.put, List.setIfInBounds_toArray, List.set_cons_zero, List.set_cons_succ]
          refine take_do (i := 1) (v := .slice (some ⟨g', 0, none⟩) fs.length cx) rfl (by kernel_rfl) (by kernel_rfl) (by kernel_rfl) (fun _ _ _ h => h) (by rfl) ?_ (by assumption) ?_
          · intro w hSw
            go_simp
          simp only [Act.put, List.setIfInBounds_toArray, List.set_cons_zero, List.set_cons_succ]
          refine take_do (i := 2) (v := .int .i64 i) rfl (by kernel_rfl) (by kernel_rfl) (by kernel_rfl) (fun _ _ _ h => h) (by rfl) ?_ (by assumption) ?_
          · intro w hSw
            go_simp
          simp only [Act.put, List.setIfInBounds_toArray, List.set_cons_zero, List.set_cons_succ]
          refine take_do (i := 3) (v := .pointer (some ⟨g', i * 4, none⟩)) rfl (by kernel_rfl) (by kernel_rfl) (by kernel_rfl) (fun _ _ _ h => h) (by rfl) ?_ (by assumption) ?_
          · intro w hSw
            go_simp
          simp only [Act.put, List.setIfInBounds_toArray, List.set_cons_zero, List.set_cons_succ]
          refine take_do (i := 4) (v := .agg #[.int .i64 f.u, .int .i64 f.k, .int .i64 f.q, .string f.b]) rfl (by kernel_rfl) (by kernel_rfl) (by kernel_rfl) (fun _ _ _ h => h) (by rfl) ?_ (by assumption) ?_
          · intro w hSw
            go_simp
          simp only [Act.put, List.setIfInBounds_toArray, List.set_cons_zero, List.set_cons_succ]
          refine take_do (i := 5) (v := .slice (some ⟨g, 0, none⟩) fs.length cv) rfl (by kernel_rfl) (by kernel_rfl) (by kernel_rfl) (fun _ _ _ h => h) (by rfl) ?_ (by assumption) ?_
          · intro w hSw
            go_simp
          simp only [Act.put, List.setIfInBounds_toArray, List.set_cons_zero, List.set_cons_succ]
          refine take_do (i := 6) (v := .int .i64 i) rfl (by kernel_rfl) (by kernel_rfl) (by kernel_rfl) (fun _ _ _ h => h) (by rfl) ?_ (by assumption) ?_
          · intro w hSw
            go_simp
          simp only [Act.put, List.setIfInBounds_toArray, List.set_cons_zero, List.set_cons_succ]
          refine take_do (i := 7) (v := .pointer (some ⟨g, i * 4, none⟩)) rfl (by kernel_rfl) (by kernel_rfl) (by kernel_rfl) (fun _ _ _ h => h) (by rfl) ?_ (by assumption) ?_
          · intro w hSw
            go_simp
          simp only [Act.put, List.setIfInBounds_toArray, List.set_cons_zero, List.set_cons_succ]
          refine take_do (i := 8) (v := .agg #[.int .i64 f.u, .int .i64 f.k, .int .i64 f.q, .string f.b]) rfl (by kernel_rfl) (by kernel_rfl) (by kernel_rfl) (fun _ _ _ h => h) (by rfl) ?_ (by assumption) ?_
          · intro w hSw
            go_simp
          simp only [Act.put, List.setIfInBounds_toArray, List.set_cons_zero, List.set_cons_succ]
          refine take_do (i := 9) (v := .bool false) rfl (by kernel_rfl) (by kernel_rfl) (by kernel_rfl) (fun _ _ _ h => h) (by rfl) ?_ (by assumption) ?_
          · intro w hSw
            go_simp
          simp only [Act.put, List.setIfInBounds_toArray, List.set_cons_zero, List.set_cons_succ]
          refine wpAnyH_done (by kernel_rfl) ?_ _
          go_wp2_with fail
          go_roundw
          case rel => exact ⟨i + 1, by omega, by go_num, hHeld.2.2.2.2.2.2.2.2.2⟩
          case measure => simp [intOf]; omega
        · obtain rfl : i = fs.length := by omega
          go_wp2_with fail
          go_ret
          exact ⟨rfl, HB0.out.trans (hB.out.mono HB0.out.size)⟩
end Go.Proofs.YtgkgpdionhfkmaaDoor
