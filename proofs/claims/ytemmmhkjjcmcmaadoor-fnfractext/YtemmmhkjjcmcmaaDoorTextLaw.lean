/-
  The law FnFracText.
-/
import Derived.Test.YtemmmhkjjcmcmaaDoorBoth
import Derived.Test.YtemmmhkjjcmcmaaDoorTDraw
import Derived.Test.YtemmmhkjjcmcmaaDoorReg
import Derived.BigRegion
namespace Go.Proofs.YtemmmhkjjcmcmaaDoor
open Go.RowKit

theorem keepS2 {w W W' : World} {A : Nat} {a0 a1 : Value} (hb : Below W.heap.size W W') (h : W.cell? ⟨A, 0, none⟩ = some a0 ∧ W.cell? ⟨A, 1, none⟩ = some a1 ∧ Hid (Below w.heap.size w W)) :
    W'.cell? ⟨A, 0, none⟩ = some a0 ∧ W'.cell? ⟨A, 1, none⟩ = some a1 ∧ Hid (Below w.heap.size w W') := by
  obtain ⟨c1, c2, hB⟩ := h
  exact ⟨(hb.cell (World.block_lt_of_cell? _ _ c1)).trans c1, (hb.cell (World.block_lt_of_cell? _ _ c2)).trans c2, hB.out.trans (hb.mono hB.out.size)⟩
theorem hidS2 {w W : World} {A : Nat} {a0 a1 : Value} (h : W.cell? ⟨A, 0, none⟩ = some a0 ∧ W.cell? ⟨A, 1, none⟩ = some a1 ∧ Hid (Below w.heap.size w W)) : Hid (Below w.heap.size w W) := h.2.2
theorem keepS3 {w W W' : World} {A : Nat} {a0 a1 a2 : Value} (hb : Below W.heap.size W W') (h : W.cell? ⟨A, 0, none⟩ = some a0 ∧ W.cell? ⟨A, 1, none⟩ = some a1 ∧ W.cell? ⟨A, 2, none⟩ = some a2 ∧ Hid (Below w.heap.size w W)) :
    W'.cell? ⟨A, 0, none⟩ = some a0 ∧ W'.cell? ⟨A, 1, none⟩ = some a1 ∧ W'.cell? ⟨A, 2, none⟩ = some a2 ∧ Hid (Below w.heap.size w W') := by
  obtain ⟨c1, c2, c3, hB⟩ := h
  exact ⟨(hb.cell (World.block_lt_of_cell? _ _ c1)).trans c1, (hb.cell (World.block_lt_of_cell? _ _ c2)).trans c2, (hb.cell (World.block_lt_of_cell? _ _ c3)).trans c3, hB.out.trans (hb.mono hB.out.size)⟩
theorem hidS3 {w W : World} {A : Nat} {a0 a1 a2 : Value} (h : W.cell? ⟨A, 0, none⟩ = some a0 ∧ W.cell? ⟨A, 1, none⟩ = some a1 ∧ W.cell? ⟨A, 2, none⟩ = some a2 ∧ Hid (Below w.heap.size w W)) : Hid (Below w.heap.size w W) := h.2.2.2

theorem t_build (a b : Int) : ∀ w : World, (Instr.build 29 #[(0, .agg #[.int .i64 a, .int .i64 b])]).run Tryd.prog w = .ok (.agg #[.int .i64 a, .int .i64 b, .int .i64 0]) w := fun _ => by kernel_rfl

theorem t_field (a b c : Int) : ∀ w : World, (Instr.field 29 (.agg #[.int .i64 a, .int .i64 b, .int .i64 c]) 1).run Tryd.prog w = .ok (.int .i64 c) w := fun _ => by kernel_rfl

set_option linter.unusedSimpArgs false in
set_option maxRecDepth 100000 in
set_option maxHeartbeats 4000000 in
theorem text_law (a1 a2 : Option Addr) (l1 c1 l2 c2 : Nat) (w : World) (h1 : Bytes a1 l1 w) (h2 : Bytes a2 l2 w) (hl1 : l1 ≤ 1048576) (hl2 : l2 ≤ 1048576) (hr : Rd1 w) :
    Calls Tryd.prog 4 #[.slice a1 l1 c1, .slice a2 l2 c2] w fun e w' => e = .returned (.bool true) ∧ Below w.heap.size w w' := by
  have z1 : ¬ (1048576 : Int) < (l1 : Int) := by omega
  have z2 : ¬ (1048576 : Int) < (l2 : Int) := by omega
  have H1 := Lib.hid h1
  have H2 := Lib.hid h2
  have HR := Lib.hid hr
  clear h1 h2 hr
  go_enter Tryd.func4, Tryd.ntmps4
  go_wp2_with fail
  refine (drawText_any a1 l1 c1 _ H1.out hl1).mono ?_
  rintro e w1 ⟨⟨n, d, rfl, ⟨k1, k2⟩, ⟨k3, k4⟩⟩, hb⟩
  have HS : Hid ((fun w' => w'.cell? ⟨w1.heap.size, 0, none⟩ = some (.int .i64 n) ∧ w'.cell? ⟨w1.heap.size, 1, none⟩ = some (.int .i64 d) ∧ Hid (Below w.heap.size w w')) (w1.alloc (.cells #[.int .i64 n, .int .i64 d] 24))) := ⟨by simp, by simp, hb.alloc hb.size _⟩
  have R1 := Lib.hid (fun wx (_ : Hid (Below w.heap.size w wx)) => specRight_any n d wx)
  have X1 := Lib.hid (fun wx (hB : Hid (Below w.heap.size w wx)) => implText_any n d wx k1 k2 k3 k4 (HR.out.later hB.out).tab)
  clear hb H1 k1 k2 k3 k4
  go_wp2_with fail
  generalize w1.alloc (.cells #[.int .i64 n, .int .i64 d] 24) = w2 at *
  generalize w1.heap.size = A at *
  go_cut [27] (fun s wx => s = .bool false ∧ Hid ((fun w' => w'.cell? ⟨A, 0, none⟩ = some (.int .i64 n) ∧ w'.cell? ⟨A, 1, none⟩ = some (.int .i64 d) ∧ Hid (Below w.heap.size w w')) wx))
  case first =>
    cases hr : M.rightB n d
    · rw [hr] at R1
      refine wp_region_held_drew (S := (fun w' => w'.cell? ⟨A, 0, none⟩ = some (.int .i64 n) ∧ w'.cell? ⟨A, 1, none⟩ = some (.int .i64 d) ∧ Hid (Below w.heap.size w w'))) (by kernel_rfl) (keepS2 (Below.refl _ _).drew HS.out) (fun hHeld => ?_)
      refine take_do (i := 0) (v := .agg #[.int .i64 n, .int .i64 d]) rfl (by kernel_rfl) (by kernel_rfl) (by kernel_rfl) (fun _ _ _ h => h) (by rfl) ?_ (by assumption) ?_
      · intro w hSw
        go_simp
      simp only [Act.put, List.setIfInBounds_toArray, List.set_cons_zero, List.set_cons_succ]
      refine take_call (i := 1) rfl (by kernel_rfl) (fun K hK => ?_)
      go_simp
      refine (R1.out _ (hidS2 (by assumption))).mono ?_
      rintro e w' ⟨rfl, hb⟩
      go_wp2_with fail
      refine hK.out _ _ (keepS2 hb hHeld) (fun hHeld2 => ?_)
      clear hK hHeld hb
      have hHeld := hHeld2
      clear hHeld2
      refine take_do (i := 2) (v := .bool false) rfl (by kernel_rfl) (by kernel_rfl) (by kernel_rfl) (fun _ _ _ h => h) (by rfl) ?_ (by assumption) ?_
      · intro w hSw
        go_simp
      simp only [Act.put, List.setIfInBounds_toArray, List.set_cons_zero, List.set_cons_succ]
      refine take_skip (i := 3) rfl (by kernel_rfl) (by kernel_rfl) (by kernel_rfl) (fun _ _ _ h => h) (by rfl) (by assumption) ?_
      simp only [Act.put, List.setIfInBounds_toArray, List.set_cons_zero, List.set_cons_succ]
      refine take_skip (i := 4) rfl (by kernel_rfl) (by kernel_rfl) (by kernel_rfl) (fun _ _ _ h => h) (by rfl) (by assumption) ?_
      simp only [Act.put, List.setIfInBounds_toArray, List.set_cons_zero, List.set_cons_succ]
      refine take_skip (i := 5) rfl (by kernel_rfl) (by kernel_rfl) (by kernel_rfl) (fun _ _ _ h => h) (by rfl) (by assumption) ?_
      simp only [Act.put, List.setIfInBounds_toArray, List.set_cons_zero, List.set_cons_succ]
      refine take_skip (i := 6) rfl (by kernel_rfl) (by kernel_rfl) (by kernel_rfl) (fun _ _ _ h => h) (by rfl) (by assumption) ?_
      simp only [Act.put, List.setIfInBounds_toArray, List.set_cons_zero, List.set_cons_succ]
      refine take_skip (i := 7) rfl (by kernel_rfl) (by kernel_rfl) (by kernel_rfl) (fun _ _ _ h => h) (by rfl) (by assumption) ?_
      simp only [Act.put, List.setIfInBounds_toArray, List.set_cons_zero, List.set_cons_succ]
      refine take_skip (i := 8) rfl (by kernel_rfl) (by kernel_rfl) (by kernel_rfl) (fun _ _ _ h => h) (by rfl) (by assumption) ?_
      simp only [Act.put, List.setIfInBounds_toArray, List.set_cons_zero, List.set_cons_succ]
      refine take_do (i := 9) (v := .bool false) rfl (by kernel_rfl) (by kernel_rfl) (by kernel_rfl) (fun _ _ _ h => h) (by rfl) ?_ (by assumption) ?_
      · intro w hSw
        go_simp
      simp only [Act.put, List.setIfInBounds_toArray, List.set_cons_zero, List.set_cons_succ]
      refine wpAnyH_done (by kernel_rfl) ?_ _
      go_wp2_with fail
      go_meet
      exact ⟨rfl, hHeld⟩
    · have X2 := Lib.hid (fun wx (hB : Hid (Below w.heap.size w wx)) => back_read n d hr wx (HR.out.later hB.out))
      have hbd := t_build n d
      rw [hr] at R1
      clear hr
      generalize (⟨(M.textL n d).toArray⟩ : ByteArray) = T at *
      refine wp_region_held_drew (S := (fun w' => w'.cell? ⟨A, 0, none⟩ = some (.int .i64 n) ∧ w'.cell? ⟨A, 1, none⟩ = some (.int .i64 d) ∧ Hid (Below w.heap.size w w'))) (by kernel_rfl) (keepS2 (Below.refl _ _).drew HS.out) (fun hHeld => ?_)
      refine take_do (i := 0) (v := .agg #[.int .i64 n, .int .i64 d]) rfl (by kernel_rfl) (by kernel_rfl) (by kernel_rfl) (fun _ _ _ h => h) (by rfl) ?_ (by assumption) ?_
      · intro w hSw
        go_simp
      simp only [Act.put, List.setIfInBounds_toArray, List.set_cons_zero, List.set_cons_succ]
      refine take_call (i := 1) rfl (by kernel_rfl) (fun K hK => ?_)
      go_simp
      refine (R1.out _ (hidS2 (by assumption))).mono ?_
      rintro e w' ⟨rfl, hb⟩
      go_wp2_with fail
      refine hK.out _ _ (keepS2 hb hHeld) (fun hHeld2 => ?_)
      clear hK hHeld hb
      have hHeld := hHeld2
      clear hHeld2
      refine take_do (i := 2) (v := .bool true) rfl (by kernel_rfl) (by kernel_rfl) (by kernel_rfl) (fun _ _ _ h => h) (by rfl) ?_ (by assumption) ?_
      · intro w hSw
        go_simp
      simp only [Act.put, List.setIfInBounds_toArray, List.set_cons_zero, List.set_cons_succ]
      refine take_do (i := 3) (v := .agg #[.int .i64 n, .int .i64 d]) rfl (by kernel_rfl) (by kernel_rfl) (by kernel_rfl) (fun _ _ _ h => h) (by rfl) ?_ (by assumption) ?_
      · intro w hSw
        go_simp
      simp only [Act.put, List.setIfInBounds_toArray, List.set_cons_zero, List.set_cons_succ]
      refine take_do (i := 6) (v := .agg #[.int .i64 n, .int .i64 d]) rfl (by kernel_rfl) (by kernel_rfl) (by kernel_rfl) (fun _ _ _ h => h) (by rfl) ?_ (by assumption) ?_
      · intro w hSw
        go_simp
      simp only [Act.put, List.setIfInBounds_toArray, List.set_cons_zero, List.set_cons_succ]
      refine take_do (i := 7) (v := .agg #[.int .i64 n, .int .i64 d, .int .i64 0]) rfl (by kernel_rfl) (by kernel_rfl) (by kernel_rfl) (fun _ _ _ h => h) (by rfl) ?_ (by assumption) ?_
      · intro w hSw
        go_simp
      simp only [Act.put, List.setIfInBounds_toArray, List.set_cons_zero, List.set_cons_succ]
      refine take_call (i := 4) rfl (by kernel_rfl) (fun K hK => ?_)
      go_simp
      refine (X1.out _ (hidS2 (by assumption))).mono ?_
      rintro e w' ⟨rfl, hb⟩
      go_wp2_with fail
      refine hK.out _ _ (keepS2 hb hHeld) (fun hHeld2 => ?_)
      clear hK hHeld hb
      have hHeld := hHeld2
      clear hHeld2
      refine take_call (i := 5) rfl (by kernel_rfl) (fun K hK => ?_)
      go_simp
      refine (X2.out _ (hidS2 (by assumption))).mono ?_
      rintro e w' ⟨rfl, hb⟩
      go_wp2_with fail
      refine hK.out _ _ (keepS2 hb hHeld) (fun hHeld2 => ?_)
      clear hK hHeld hb
      have hHeld := hHeld2
      clear hHeld2
      refine take_do (i := 8) (v := .bool false) rfl (by kernel_rfl) (by kernel_rfl) (by kernel_rfl) (fun _ _ _ h => h) (by rfl) ?_ (by assumption) ?_
      · intro w hSw
        go_simp
      simp only [Act.put, List.setIfInBounds_toArray, List.set_cons_zero, List.set_cons_succ]
      refine take_do (i := 9) (v := .bool false) rfl (by kernel_rfl) (by kernel_rfl) (by kernel_rfl) (fun _ _ _ h => h) (by rfl) ?_ (by assumption) ?_
      · intro w hSw
        go_simp
      simp only [Act.put, List.setIfInBounds_toArray, List.set_cons_zero, List.set_cons_succ]
      refine wpAnyH_done (by kernel_rfl) ?_ _
      go_wp2_with fail
      go_meet
      exact ⟨rfl, hHeld⟩
  case rest =>
    obtain ⟨rfl, HT⟩ := hcut
    clear HS R1 X1
    have HB := hidS2 HT.out
    clear HT
    go_wp2_with fail
    refine (drawRead_any a2 l2 c2 _ (H2.out.below HB.out) hl2).mono ?_
    rintro e w3 ⟨⟨s, rfl⟩, hb⟩
    have HB3 : Hid (Below w.heap.size w w3) := HB.out.trans (hb.mono HB.out.size)
    clear hb HB H2
    obtain ⟨xn, xd, xc, ⟨k1, k2, k3, k4⟩, hx, hSp, hIm⟩ := both_read s
    have Hx := Lib.hid hx
    have Y1 := Lib.hid (fun wx (_ : Hid (Below w.heap.size w wx)) => hSp wx)
    have Y2 := Lib.hid (fun wx (hB : Hid (Below w.heap.size w wx)) => hIm wx (HR.out.later hB.out))
    have Y3 := Lib.hid (fun wx (hB : Hid (Below w.heap.size w wx)) => implText_any xn xd wx k1 k2 k3 k4 (HR.out.later hB.out).tab)
    clear hx hSp hIm k1 k2 k3 k4
    go_wp2_with fail
    refine (Y2.out _ HB3).mono ?_
    rintro e w4 ⟨rfl, hb⟩
    have HS : Hid ((fun w' => w'.cell? ⟨w4.heap.size, 0, none⟩ = some (.int .i64 xn) ∧ w'.cell? ⟨w4.heap.size, 1, none⟩ = some (.int .i64 xd) ∧ w'.cell? ⟨w4.heap.size, 2, none⟩ = some (.int .i64 xc) ∧ Hid (Below w.heap.size w w')) (w4.alloc (.cells #[.int .i64 xn, .int .i64 xd, .int .i64 xc] 29))) := ⟨by simp, by simp, by simp, (HB3.out.trans (hb.mono HB3.out.size)).alloc (by have := hb.size; have := HB3.out.size; omega) _⟩
    clear hb HB3
    go_wp2_with fail
    generalize w4.alloc (.cells #[.int .i64 xn, .int .i64 xd, .int .i64 xc] 29) = w5 at *
    generalize w4.heap.size = X at *
    go_cut [39] (fun s wx => s = .bool false ∧ Hid ((fun w' => w'.cell? ⟨X, 0, none⟩ = some (.int .i64 xn) ∧ w'.cell? ⟨X, 1, none⟩ = some (.int .i64 xd) ∧ w'.cell? ⟨X, 2, none⟩ = some (.int .i64 xc) ∧ Hid (Below w.heap.size w w')) wx))
    case first =>
      by_cases hxc : xc = 0
      · subst hxc
        have hfd := t_field xn xd 0
        refine wp_region_held_drew (S := (fun w' => w'.cell? ⟨X, 0, none⟩ = some (.int .i64 xn) ∧ w'.cell? ⟨X, 1, none⟩ = some (.int .i64 xd) ∧ w'.cell? ⟨X, 2, none⟩ = some (.int .i64 0) ∧ Hid (Below w.heap.size w w'))) (by kernel_rfl) (keepS3 (Below.refl _ _).drew HS.out) (fun hHeld => ?_)
        refine take_do (i := 0) (v := .string s) rfl (by kernel_rfl) (by kernel_rfl) (by kernel_rfl) (fun _ _ _ h => h) (by rfl) ?_ (by assumption) ?_
        · intro w hSw
          go_simp
        simp only [Act.put, List.setIfInBounds_toArray, List.set_cons_zero, List.set_cons_succ]
        refine take_do (i := 4) (v := .pointer (some ⟨X, 2, none⟩)) rfl (by kernel_rfl) (by kernel_rfl) (by kernel_rfl) (fun _ _ _ h => h) (by rfl) ?_ (by assumption) ?_
        · intro w hSw
          go_simp
        simp only [Act.put, List.setIfInBounds_toArray, List.set_cons_zero, List.set_cons_succ]
        refine take_do (i := 5) (v := .int .i64 0) rfl (by kernel_rfl) (by kernel_rfl) (by kernel_rfl) (fun _ _ _ h => h) (by rfl) ?_ (by assumption) ?_
        · intro w hSw
          go_simp
        simp only [Act.put, List.setIfInBounds_toArray, List.set_cons_zero, List.set_cons_succ]
        refine take_do (i := 6) (v := .bool true) rfl (by kernel_rfl) (by kernel_rfl) (by kernel_rfl) (fun _ _ _ h => h) (by rfl) ?_ (by assumption) ?_
        · intro w hSw
          go_simp
        simp only [Act.put, List.setIfInBounds_toArray, List.set_cons_zero, List.set_cons_succ]
        refine take_call (i := 1) rfl (by kernel_rfl) (fun K hK => ?_)
        go_simp
        refine (Y1.out _ (hidS3 (by assumption))).mono ?_
        rintro e w' ⟨rfl, hb⟩
        go_wp2_with fail
        refine hK.out _ _ (keepS3 hb hHeld) (fun hHeld2 => ?_)
        clear hK hHeld hb
        have hHeld := hHeld2
        clear hHeld2
        refine take_do (i := 2) (v := .int .i64 0) rfl (by kernel_rfl) (by kernel_rfl) (by kernel_rfl) (fun _ _ _ h => h) (by rfl) ?_ (by assumption) ?_
        · intro w hSw
          go_simp
        simp only [Act.put, List.setIfInBounds_toArray, List.set_cons_zero, List.set_cons_succ]
        refine take_do (i := 3) (v := .bool true) rfl (by kernel_rfl) (by kernel_rfl) (by kernel_rfl) (fun _ _ _ h => h) (by rfl) ?_ (by assumption) ?_
        · intro w hSw
          go_simp
        simp only [Act.put, List.setIfInBounds_toArray, List.set_cons_zero, List.set_cons_succ]
        refine take_do (i := 7) (v := .bool false) rfl (by kernel_rfl) (by kernel_rfl) (by kernel_rfl) (fun _ _ _ h => h) (by rfl) ?_ (by assumption) ?_
        · intro w hSw
          go_simp
        simp only [Act.put, List.setIfInBounds_toArray, List.set_cons_zero, List.set_cons_succ]
        refine wpAnyH_done (by kernel_rfl) ?_ _
        go_wp2_with fail
        go_meet
        exact ⟨rfl, hHeld⟩
      · have hfd := t_field xn xd xc
        have hx2 : (xc == 0) = false := by simp [hxc]
        refine wp_region_held_drew (S := (fun w' => w'.cell? ⟨X, 0, none⟩ = some (.int .i64 xn) ∧ w'.cell? ⟨X, 1, none⟩ = some (.int .i64 xd) ∧ w'.cell? ⟨X, 2, none⟩ = some (.int .i64 xc) ∧ Hid (Below w.heap.size w w'))) (by kernel_rfl) (keepS3 (Below.refl _ _).drew HS.out) (fun hHeld => ?_)
        refine take_do (i := 0) (v := .string s) rfl (by kernel_rfl) (by kernel_rfl) (by kernel_rfl) (fun _ _ _ h => h) (by rfl) ?_ (by assumption) ?_
        · intro w hSw
          go_simp
        simp only [Act.put, List.setIfInBounds_toArray, List.set_cons_zero, List.set_cons_succ]
        refine take_do (i := 4) (v := .pointer (some ⟨X, 2, none⟩)) rfl (by kernel_rfl) (by kernel_rfl) (by kernel_rfl) (fun _ _ _ h => h) (by rfl) ?_ (by assumption) ?_
        · intro w hSw
          go_simp
        simp only [Act.put, List.setIfInBounds_toArray, List.set_cons_zero, List.set_cons_succ]
        refine take_do (i := 5) (v := .int .i64 xc) rfl (by kernel_rfl) (by kernel_rfl) (by kernel_rfl) (fun _ _ _ h => h) (by rfl) ?_ (by assumption) ?_
        · intro w hSw
          go_simp
        simp only [Act.put, List.setIfInBounds_toArray, List.set_cons_zero, List.set_cons_succ]
        refine take_do (i := 6) (v := .bool false) rfl (by kernel_rfl) (by kernel_rfl) (by kernel_rfl) (fun _ _ _ h => h) (by rfl) ?_ (by assumption) ?_
        · intro w hSw
          go_simp
        simp only [Act.put, List.setIfInBounds_toArray, List.set_cons_zero, List.set_cons_succ]
        refine take_call (i := 1) rfl (by kernel_rfl) (fun K hK => ?_)
        go_simp
        refine (Y1.out _ (hidS3 (by assumption))).mono ?_
        rintro e w' ⟨rfl, hb⟩
        go_wp2_with fail
        refine hK.out _ _ (keepS3 hb hHeld) (fun hHeld2 => ?_)
        clear hK hHeld hb
        have hHeld := hHeld2
        clear hHeld2
        refine take_do (i := 2) (v := .int .i64 xc) rfl (by kernel_rfl) (by kernel_rfl) (by kernel_rfl) (fun _ _ _ h => h) (by rfl) ?_ (by assumption) ?_
        · intro w hSw
          go_simp
        simp only [Act.put, List.setIfInBounds_toArray, List.set_cons_zero, List.set_cons_succ]
        refine take_do (i := 3) (v := .bool false) rfl (by kernel_rfl) (by kernel_rfl) (by kernel_rfl) (fun _ _ _ h => h) (by rfl) ?_ (by assumption) ?_
        · intro w hSw
          go_simp
        simp only [Act.put, List.setIfInBounds_toArray, List.set_cons_zero, List.set_cons_succ]
        refine take_do (i := 7) (v := .bool false) rfl (by kernel_rfl) (by kernel_rfl) (by kernel_rfl) (fun _ _ _ h => h) (by rfl) ?_ (by assumption) ?_
        · intro w hSw
          go_simp
        simp only [Act.put, List.setIfInBounds_toArray, List.set_cons_zero, List.set_cons_succ]
        refine wpAnyH_done (by kernel_rfl) ?_ _
        go_wp2_with fail
        go_meet
        exact ⟨rfl, hHeld⟩
    case rest =>
      obtain ⟨rfl, HT⟩ := hcut
      clear HS
      obtain ⟨q0, q1, q2, HB⟩ := HT.out
      clear HT
      by_cases hxc : xc = 0
      · subst hxc
        have hst : (⟨(M.textL xn xd).toArray⟩ : ByteArray) = s := by
          apply ByteArray.ext; show (M.textL xn xd).toArray = s.data; rw [Hx.out rfl]
        rw [hst] at Y3
        clear hst Hx
        go_wp2_with fail
        refine (Y3.out _ HB).mono ?_
        rintro e w6 ⟨rfl, hb⟩
        have HB6 : Hid (Below w.heap.size w w6) := HB.out.trans (hb.mono HB.out.size)
        clear hb HB
        go_wp2_with fail
        go_ret
        exact ⟨rfl, HB6.out⟩
      · have hx2 : (xc != 0) = true := by simp [hxc]
        go_wp2_with fail
        go_ret
        exact ⟨rfl, HB.out⟩
end Go.Proofs.YtemmmhkjjcmcmaaDoor
