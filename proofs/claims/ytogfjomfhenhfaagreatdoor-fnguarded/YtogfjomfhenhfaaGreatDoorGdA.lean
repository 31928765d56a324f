/-
  Joined: CyOpM, CyEx1, CyOp, NtEx1, CyEx, BiLs, RnMath, RnMem, RnEx, RnSs, CyRm, CyLc, GdDr, GdMath, GdLw, CyM2, CySt, CyS1, Aw, CyI1, Fa, MarkText, PgEx1, PgEx, FaCy, CyL, CyC, RnSt, LwI, Et.
-/
import Derived.Test.YtogfjomfhenhfaaGreatDoorCyMath
import Derived.Test.YtogfjomfhenhfaaGreatDoorNtMem
import Derived.Test.YtogfjomfhenhfaaGreatDoorMnMem
import Derived.Test.YtogfjomfhenhfaaGreatDoorReg
import Derived.Test.YtogfjomfhenhfaaGreatDoorCyMem
import Derived.Laws.AppendOwn
import Derived.Laws.AppendOwnNone
import Derived.Laws.OwnMore
import Derived.Test.YtogfjomfhenhfaaGreatDoorPlMath
import Derived.Test.YtogfjomfhenhfaaGreatDoorPgMem
import Derived.Test.YtogfjomfhenhfaaGreatDoorPdPr
import Derived.Test.YtogfjomfhenhfaaGreatDoorPgIs
import Derived.Test.YtogfjomfhenhfaaGreatDoorLnMem
import Derived.Maps.AppendAt
import Derived.Deep.DeepCutAuto
import Derived.Deep.QuietTactic
import Derived.BigQuiet
import Derived.Test.YtogfjomfhenhfaaGreatDoorPgI5
import Derived.Test.YtogfjomfhenhfaaGreatDoorPgS2
import Derived.Test.YtogfjomfhenhfaaGreatDoorNums
import Derived.OwnWalk
import Derived.Deep.OwnRows
import Derived.Deep.Heap
import Derived.WalkMore
import Derived.Lib.Hide
import Derived.Lib.SliceRun
import Derived.Deep.RegionWith
import Derived.Lib.ConvBytes
namespace Go.Proofs.YtogfjomfhenhfaaGreatDoor
open Go.RowKit Go.Deep

namespace Pc
abbrev Op := Int × Int × Int
/-- What puts the truth of a block on the stack. -/
def opsB (i : Nat) (b : Pg.Bk) : List Op :=
  if b.kind = 1 then [(1, 0, 0)]
  else if b.kind = 2 then [(7, b.a, 0), (7, b.b, 0), (2, 0, 0)]
  else if b.kind = 3 then [(7, b.a, 0), (7, b.b, 0), (3, 0, 0)]
  else if b.kind = 4 then [(7, b.a, 0), (4, 0, 0)]
  else if b.kind = 5 then [(5, b.a, 0)]
  else if b.kind = 6 then [(5, (i : Int), 0), (7, b.a, 0), (3, 0, 0), (7, b.b, 0), (4, 0, 0), (2, 0, 0)]
  else [(7, b.a, 0), (8, (i : Int), b.b)]
def bks (p : Pg.Prog) : Nat → List Op
  | 0 => []
  | i + 1 => bks p i ++ opsB i (p.B i) ++ [(6, (i : Int), 0)]
def nvs (p : Pg.Prog) : Nat → List Op
  | 0 => bks p p.bn
  | j + 1 => nvs p j ++ [(7, p.N (j * 2), 0), (7, p.N (j * 2 + 1), 0), (2, 0, 0), (10, 0, 0)]
def ous (p : Pg.Prog) : Nat → List Op
  | 0 => nvs p p.nn
  | j + 1 => ous p j ++ [(7, p.O j, 0), (9, 0, 0)]
noncomputable def code (p : Pg.Prog) : List Op := @ite _ (Pg.Right p) (Classical.propDecidable _) (ous p p.on) []
theorem code_yes {p : Pg.Prog} (h : Pg.Right p) : code p = ous p p.on := by unfold code; rw [if_pos h]
theorem code_no {p : Pg.Prog} (h : ¬ Pg.Right p) : code p = [] := by unfold code; rw [if_neg h]
theorem opsB_len (i : Nat) (b : Pg.Bk) : (opsB i b).length ≤ 6 := by
  unfold opsB
  repeat' split
  all_goals simp
theorem bks_len (p : Pg.Prog) (i : Nat) : (bks p i).length ≤ i * 7 := by
  induction i with
  | zero => simp [bks]
  | succ i ih =>
    have := opsB_len i (p.B i)
    rw [bks, List.length_append, List.length_append, List.length_singleton]
    omega
theorem nvs_len (p : Pg.Prog) (j : Nat) : (nvs p j).length ≤ p.bn * 7 + j * 4 := by
  induction j with
  | zero => have := bks_len p p.bn; rw [nvs]; omega
  | succ j ih => rw [nvs, List.length_append]; simp; omega
theorem ous_len (p : Pg.Prog) (j : Nat) : (ous p j).length ≤ p.bn * 7 + p.nn * 4 + j * 2 := by
  induction j with
  | zero => have := nvs_len p p.nn; rw [ous]; omega
  | succ j ih => rw [ous, List.length_append]; simp; omega
theorem code_len (p : Pg.Prog) : (code p).length ≤ 1300 := by
  by_cases h : Pg.Right p
  · rw [code_yes h]
    have := ous_len p p.on
    have := h.n
    have := h.m
    have := h.on
    omega
  · rw [code_no h]; simp
/-- Its numbers, one by one. -/
def fl (l : List Op) (j : Nat) : Int := match j % 3 with
  | 0 => (l.getD (j / 3) (0, 0, 0)).1
  | 1 => (l.getD (j / 3) (0, 0, 0)).2.1
  | _ => (l.getD (j / 3) (0, 0, 0)).2.2
theorem fl0 (l : List Op) (i : Nat) : fl l (i * 3) = (l.getD i (0, 0, 0)).1 := by
  have h1 : (i * 3) % 3 = 0 := by omega
  have h2 : (i * 3) / 3 = i := by omega
  simp only [fl, h1, h2]
theorem fl1 (l : List Op) (i : Nat) : fl l (i * 3 + 1) = (l.getD i (0, 0, 0)).2.1 := by
  have h1 : (i * 3 + 1) % 3 = 1 := by omega
  have h2 : (i * 3 + 1) / 3 = i := by omega
  simp only [fl, h1, h2]
theorem fl2 (l : List Op) (i : Nat) : fl l (i * 3 + 2) = (l.getD i (0, 0, 0)).2.2 := by
  have h1 : (i * 3 + 2) % 3 = 2 := by omega
  have h2 : (i * 3 + 2) / 3 = i := by omega
  simp only [fl, h1, h2]
theorem fl_tail (x : Op) (l : List Op) (j : Nat) : fl (x :: l) (j + 3) = fl l j := by
  have h1 : (j + 3) % 3 = j % 3 := by omega
  have h2 : (j + 3) / 3 = j / 3 + 1 := by omega
  simp only [fl, h1, h2, List.getD_cons_succ]
end Pc
end Go.Proofs.YtogfjomfhenhfaaGreatDoor
namespace Go.Proofs.YtogfjomfhenhfaaGreatDoor
open Go.RowKit Go.Deep

theorem ninfo_Op : (Tryz.prog.info? 87).map (fun i => (i.zero, i.size, i.bytes)) = some (some (.agg #[.int .i64 0, .int .i64 0, .int .i64 0]), 3, 24) := by kernel_rfl
theorem nmk_Op (n : Nat) (hn : n ≤ 1048576) (w : World) : (Instr.makeSlice 46 (.int .i64 (n : Int)) (.int .i64 (n : Int))).run Tryz.prog w = .ok (.slice (some ⟨w.heap.size, 0, none⟩) n n) (w.alloc (.cells (madeCells #[.int .i64 0, .int .i64 0, .int .i64 0] (n * 3)) 87)) := by
  obtain ⟨i0, hi, hz0, hz1, hz2⟩ := info_parts ninfo_Op
  have := run_make (P := Tryz.prog) w 46 87 i0 _ Tryz.underlying46 hi hz0 .i64 .i64 n n (by omega) (Int.le_refl _) (by rw [hz2]; omega) (by omega)
  rw [hz1] at this
  simp only [Int.toNat_natCast] at this
  exact this
set_option maxRecDepth 100000 in
set_option maxHeartbeats 1000000 in
theorem ntoOp_any (x0 x1 x2 : Int) (w : World) :
    Calls Tryz.prog 56 #[.agg #[.int .i64 x0, .int .i64 x1, .int .i64 x2]] w fun e w' => e = .returned (.agg #[.int .i64 x0, .int .i64 x1, .int .i64 x2]) ∧ Below w.heap.size w w' := by
  go_enter Tryz.func56, Tryz.ntmps56
  go_wp2_with fail
  exact bodyPost_ret (v := .agg #[.int .i64 x0, .int .i64 x1, .int .i64 x2]) (by simp [results, Tryz.results56, go_sem]) rfl ⟨rfl, (((Below.refl _ _).alloc (Nat.le_refl _) _).alloc (by simp) _).alloc (by simp <;> omega) _⟩
set_option maxRecDepth 100000 in
set_option maxHeartbeats 2000000 in
theorem ntoOpS_any (a : Option Addr) (n cap : Nat) (f : Nat → Int) (w : World) (h : IsIn a (n * 3) f w) (hn : n ≤ 1048576) :
    Calls Tryz.prog 24 #[.slice a n cap] w fun e w' => (e = .returned (.slice (some ⟨w.heap.size, 0, none⟩) n n) ∧ IsBlk 87 w.heap.size (n * 3) f w') ∧ Below w.heap.size w w' := by
  have hmk := nmk_Op n hn
  have H := Lib.hid h
  have HST : Hid (IsPart 87 w.heap.size (n * 3) (0 * 3) f (w.alloc (.cells (madeCells #[.int .i64 0, .int .i64 0, .int .i64 0] (n * 3)) 87))) := ⟨_, made_is _ _ w _ (by intro i hi; simp at hi; have : i = 0 ∨ i = 1 ∨ i = 2 := (by omega); rcases this with rfl | rfl | rfl <;> rfl) (by simp), fun j hj => absurd hj (by omega)⟩
  clear h
  go_enter Tryz.func24, Tryz.ntmps24
  go_wp2_with fail
  clear hmk
  go_loopw [4] (fun iv wr => ∃ (i : Nat), i ≤ n ∧ iv = .int .i64 i ∧ Hid (IsPart 87 w.heap.size (n * 3) (i * 3) f wr) ∧ Hid (Below w.heap.size w wr)) (fun iv _ => n - (intOf iv).toNat)
  case atStart => exact ⟨0, Nat.zero_le _, rfl, HST, (Below.refl _ _).alloc (Nat.le_refl _) _⟩
  case round =>
    obtain ⟨i, hi, rfl, hP, hB⟩ := hrel
    clear HST
    by_cases hlt : i < n
    · have hltz : (i : Int) < (n : Int) := by omega
      obtain ⟨b, o, rfl, c0, c1, c2⟩ := (H.out.below hB.out).at3 hlt
      go_wp2_with fail
      refine (ntoOp_any (f (i * 3)) (f (i * 3 + 1)) (f (i * 3 + 2)) _).mono ?_
      rintro e w1 ⟨rfl, hb⟩
      have hP1 := hP.out.block (hb.block _ hP.out.lt)
      have HB1 : Hid (Below w.heap.size w w1) := hB.out.trans (hb.mono hB.out.size)
      have HP2 := Lib.hid ((((hP1.put (f (i * 3)) rfl).put (f (i * 3 + 1)) rfl).put (f (i * 3 + 2)) rfl))
      obtain ⟨v0, y0⟩ := hP1.cell (j := i * 3) (by omega)
      have z0 := hP1.frozen (i * 3)
      obtain ⟨v1, y1⟩ := hP1.cell (j := i * 3 + 1) (by omega)
      have z1 := hP1.frozen (i * 3 + 1)
      obtain ⟨v2, y2⟩ := hP1.cell (j := i * 3 + 2) (by omega)
      have z2 := hP1.frozen (i * 3 + 2)
      have hz : w.heap.size < w1.heap.size := hP1.lt
      clear hP1 hb hP hB c0 c1 c2
      go_wp2_with fail
      go_roundw
      case rel => exact ⟨i + 1, by omega, by go_num, by rw [Nat.succ_mul]; exact HP2, (((HB1.out.setCell (p := ⟨w.heap.size, _, none⟩) (Nat.le_refl _) _).setCell (p := ⟨w.heap.size, _, none⟩) (Nat.le_refl _) _).setCell (p := ⟨w.heap.size, _, none⟩) (Nat.le_refl _) _)⟩
      case measure => simp [intOf]; omega
    · obtain rfl : i = n := by omega
      go_wp2_with fail
      go_ret
      exact ⟨⟨rfl, hP.out.full (Nat.le_refl _)⟩, hB.out⟩
theorem nszOp_in (a : Option Addr) (n cap : Nat) (l : Nat) (w : World) (hn : n ≤ l) (hl : l ≤ 1048576) :
    Calls Tryz.prog 21 #[.slice a n cap, .int .i64 l] w fun e w' => e = .returned (.int .i64 ((l - n : Nat) : Int)) ∧ w' = w := by
  have h1 : ¬ ((l : Int) - (n : Int)) < 0 := by omega
  have h2 : ((l : Int) - (n : Int)) = ((l - n : Nat) : Int) := by omega
  have h3 : ¬ (((l - n : Nat) : Int)) < 0 := by omega
  have h4 : ((l - n : Nat) : Int) ≤ 1048576 := by omega
  have h5 : 0 ≤ ((l - n : Nat) : Int) := by omega
  have h6 : (n : Int) ≤ 1048576 := by omega
  have h7 : (l : Int) ≤ 1048576 := by omega
  go_enter Tryz.func21, Tryz.ntmps21
  go_wp2_with fail
  go_ret
  exact ⟨ret_int (by omega), rfl⟩
theorem nszOp_over (a : Option Addr) (n cap : Nat) (l : Nat) (w : World) (hn : l < n) (hl : l ≤ 1048576) (hm : n ≤ 9223372036854775807) :
    Calls Tryz.prog 21 #[.slice a n cap, .int .i64 l] w fun e w' => e = .returned (.int .i64 (-1)) ∧ w' = w := by
  have h1 : ((l : Int) - (n : Int)) < 0 := by omega
  have h7 : (l : Int) ≤ 1048576 := by omega
  have h8 : (n : Int) ≤ 9223372036854775807 := by omega
  go_enter Tryz.func21, Tryz.ntmps21
  go_wp2_with fail
  go_ret
  exact ⟨rfl, rfl⟩
/-- What a round of the comparison reads. -/
def EqSOp (w : World) (b1 b2 i : Nat) (f : Nat → Int) (W : World) : Prop := (W.cell? ⟨b1, i * 3, none⟩ = some (.int .i64 (f (i * 3))) ∧ W.cell? ⟨b1, i * 3 + 1, none⟩ = some (.int .i64 (f (i * 3 + 1))) ∧ W.cell? ⟨b1, i * 3 + 2, none⟩ = some (.int .i64 (f (i * 3 + 2)))) ∧ (W.cell? ⟨b2, i * 3, none⟩ = some (.int .i64 (f (i * 3))) ∧ W.cell? ⟨b2, i * 3 + 1, none⟩ = some (.int .i64 (f (i * 3 + 1))) ∧ W.cell? ⟨b2, i * 3 + 2, none⟩ = some (.int .i64 (f (i * 3 + 2)))) ∧ Below w.heap.size w W
theorem EqSOp.below {w : World} {b1 b2 i : Nat} {f : Nat → Int} {W W' : World} (h : EqSOp w b1 b2 i f W) (hb : Below W.heap.size W W') : EqSOp w b1 b2 i f W' := by
  obtain ⟨⟨c0, c1, c2⟩, ⟨d0, d1, d2⟩, h3⟩ := h
  exact ⟨⟨(hb.cell (World.block_lt_of_cell? _ _ c0)).trans c0, (hb.cell (World.block_lt_of_cell? _ _ c1)).trans c1, (hb.cell (World.block_lt_of_cell? _ _ c2)).trans c2⟩, ⟨(hb.cell (World.block_lt_of_cell? _ _ d0)).trans d0, (hb.cell (World.block_lt_of_cell? _ _ d1)).trans d1, (hb.cell (World.block_lt_of_cell? _ _ d2)).trans d2⟩, h3.trans (hb.mono h3.size)⟩
set_option maxRecDepth 100000 in
set_option maxHeartbeats 1000000 in
theorem neqOp_same (x0 x1 x2 : Int) (w : World) :
    Calls Tryz.prog 57 #[.agg #[.int .i64 x0, .int .i64 x1, .int .i64 x2], .agg #[.int .i64 x0, .int .i64 x1, .int .i64 x2]] w fun e w' => e = .returned (.bool true) ∧ Below w.heap.size w w' := by
  go_enter Tryz.func57, Tryz.ntmps57
  go_wp2_with fail
  go_ret
  exact ⟨rfl, ((Below.refl _ _).alloc (Nat.le_refl _) _).alloc (by simp) _⟩
set_option maxRecDepth 100000 in
set_option maxHeartbeats 2000000 in
theorem neqOpS_same (a b : Option Addr) (n ca cb : Nat) (f : Nat → Int) (w : World) (h1 : IsAt a (n * 3) f w) (h2 : IsAt b (n * 3) f w) (hn : n ≤ 1048576) :
    Calls Tryz.prog 28 #[.slice a n ca, .slice b n cb] w fun e w' => e = .returned (.bool true) ∧ Below w.heap.size w w' := by
  have H1 := Lib.hid h1
  have H2 := Lib.hid h2
  clear h1 h2
  go_enter Tryz.func28, Tryz.ntmps28
  go_wp2_with fail
  go_loopw [5] (fun iv wr => ∃ (i : Nat), i ≤ n ∧ iv = .int .i64 i ∧ Hid (Below w.heap.size w wr)) (fun iv _ => n - (intOf iv).toNat)
  case atStart => exact ⟨0, Nat.zero_le _, rfl, Below.refl _ _⟩
  case round =>
    obtain ⟨i, hi, rfl, hB⟩ := hrel
    by_cases hlt : i < n
    · have hltz : (i : Int) < (n : Int) := by omega
      obtain ⟨b1, rfl, k1⟩ := (H1.out.below hB.out).at3 hlt
      obtain ⟨b2, rfl, k2⟩ := (H2.out.below hB.out).at3 hlt
      have HE : Hid (EqSOp w b1 b2 i f wr) := ⟨k1, k2, hB.out⟩
      clear k1 k2 hB
      go_wp2_with fail
      refine wp_region_held_drew (S := EqSOp w b1 b2 i f) (by kernel_rfl) (HE.out.below (Below.refl _ _).drew) (fun hHeld => ?_)
      clear HE
      refine take_do (i := 0) (v := (.slice (some ⟨b1, 0, none⟩) n ca)) rfl (by kernel_rfl) (by kernel_rfl) (by kernel_rfl) (fun _ _ _ h => h) (by rfl) ?_ (by assumption) ?_
      · intro w hSw
        obtain ⟨⟨c0, c1, c2⟩, ⟨d0, d1, d2⟩, _⟩ := hSw
        go_simp
      simp only [Act.put, List.setIfInBounds_toArray, List.set_cons_zero, List.set_cons_succ]
      refine take_do (i := 1) (v := (.int .i64 i)) rfl (by kernel_rfl) (by kernel_rfl) (by kernel_rfl) (fun _ _ _ h => h) (by rfl) ?_ (by assumption) ?_
      · intro w hSw
        obtain ⟨⟨c0, c1, c2⟩, ⟨d0, d1, d2⟩, _⟩ := hSw
        go_simp
      simp only [Act.put, List.setIfInBounds_toArray, List.set_cons_zero, List.set_cons_succ]
      refine take_do (i := 2) (v := (.pointer (some ⟨b1, i * 3, none⟩))) rfl (by kernel_rfl) (by kernel_rfl) (by kernel_rfl) (fun _ _ _ h => h) (by rfl) ?_ (by assumption) ?_
      · intro w hSw
        obtain ⟨⟨c0, c1, c2⟩, ⟨d0, d1, d2⟩, _⟩ := hSw
        go_simp
      simp only [Act.put, List.setIfInBounds_toArray, List.set_cons_zero, List.set_cons_succ]
      refine take_do (i := 3) (v := (.agg #[.int .i64 (f (i * 3)), .int .i64 (f (i * 3 + 1)), .int .i64 (f (i * 3 + 2))])) rfl (by kernel_rfl) (by kernel_rfl) (by kernel_rfl) (fun _ _ _ h => h) (by rfl) ?_ (by assumption) ?_
      · intro w hSw
        obtain ⟨⟨c0, c1, c2⟩, ⟨d0, d1, d2⟩, _⟩ := hSw
        go_simp
      simp only [Act.put, List.setIfInBounds_toArray, List.set_cons_zero, List.set_cons_succ]
      refine take_do (i := 4) (v := (.slice (some ⟨b2, 0, none⟩) n cb)) rfl (by kernel_rfl) (by kernel_rfl) (by kernel_rfl) (fun _ _ _ h => h) (by rfl) ?_ (by assumption) ?_
      · intro w hSw
        obtain ⟨⟨c0, c1, c2⟩, ⟨d0, d1, d2⟩, _⟩ := hSw
        go_simp
      simp only [Act.put, List.setIfInBounds_toArray, List.set_cons_zero, List.set_cons_succ]
      refine take_do (i := 5) (v := (.int .i64 i)) rfl (by kernel_rfl) (by kernel_rfl) (by kernel_rfl) (fun _ _ _ h => h) (by rfl) ?_ (by assumption) ?_
      · intro w hSw
        obtain ⟨⟨c0, c1, c2⟩, ⟨d0, d1, d2⟩, _⟩ := hSw
        go_simp
      simp only [Act.put, List.setIfInBounds_toArray, List.set_cons_zero, List.set_cons_succ]
      refine take_do (i := 6) (v := (.pointer (some ⟨b2, i * 3, none⟩))) rfl (by kernel_rfl) (by kernel_rfl) (by kernel_rfl) (fun _ _ _ h => h) (by rfl) ?_ (by assumption) ?_
      · intro w hSw
        obtain ⟨⟨c0, c1, c2⟩, ⟨d0, d1, d2⟩, _⟩ := hSw
        go_simp
      simp only [Act.put, List.setIfInBounds_toArray, List.set_cons_zero, List.set_cons_succ]
      refine take_do (i := 7) (v := (.agg #[.int .i64 (f (i * 3)), .int .i64 (f (i * 3 + 1)), .int .i64 (f (i * 3 + 2))])) rfl (by kernel_rfl) (by kernel_rfl) (by kernel_rfl) (fun _ _ _ h => h) (by rfl) ?_ (by assumption) ?_
      · intro w hSw
        obtain ⟨⟨c0, c1, c2⟩, ⟨d0, d1, d2⟩, _⟩ := hSw
        go_simp
      simp only [Act.put, List.setIfInBounds_toArray, List.set_cons_zero, List.set_cons_succ]
      refine take_call (i := 8) rfl (by kernel_rfl) (fun K2 hK => ?_)
      go_simp
      refine (neqOp_same (f (i * 3)) (f (i * 3 + 1)) (f (i * 3 + 2)) _).mono ?_
      rintro e w1 ⟨rfl, hb⟩
      go_wp2_with fail
      refine hK.out _ _ (hHeld.below hb) (fun hHeld2 => ?_)
      clear hK hHeld hb
      have hHeld := hHeld2
      clear hHeld2
      refine take_do (i := 9) (v := (.bool false)) rfl (by kernel_rfl) (by kernel_rfl) (by kernel_rfl) (fun _ _ _ h => h) (by rfl) ?_ (by assumption) ?_
      · intro w hSw
        obtain ⟨⟨c0, c1, c2⟩, ⟨d0, d1, d2⟩, _⟩ := hSw
        go_simp
      simp only [Act.put, List.setIfInBounds_toArray, List.set_cons_zero, List.set_cons_succ]
      refine wpAnyH_done (by kernel_rfl) ?_ _
      have HB1 := Lib.hid hHeld.2.2
      clear hHeld
      go_wp2_with fail
      go_roundw
      case rel => exact ⟨i + 1, by omega, by go_num, HB1⟩
      case measure => simp [intOf]; omega
    · obtain rfl : i = n := by omega
      go_wp2_with fail
      go_ret
      exact ⟨rfl, hB.out⟩
set_option maxRecDepth 100000 in
set_option maxHeartbeats 2000000 in
theorem nmarkOpS_any (g n c k : Nat) (f : Nat → Int) (w : World) (h : IsBlk 87 g (n * 3) f w) (hn : n ≤ 1048576) (hk : k ≤ 1073741824) :
    Calls Tryz.prog 31 #[.slice (some ⟨g, 0, none⟩) n c, .int .i64 k] w fun e w' => e = .returned (.int .i64 ((k + n * 3 : Nat) : Int)) ∧ IsBlk 87 g (n * 3) (mk1 k) w' ∧ Only g w w' := by
  obtain ⟨M, F0, hM, hR, _⟩ := h
  have H : Hid (IsPart 87 g M 0 (mk1 k) w) := ⟨F0, hR, fun j hj => absurd hj (Nat.not_lt_zero _)⟩
  clear hR
  go_enter Tryz.func31, Tryz.ntmps31
  go_wp2_with fail
  go_loopw [1, 5] (fun kv iv wr => ∃ (i : Nat), i ≤ n ∧ kv = .int .i64 ((k + i * 3 : Nat) : Int) ∧ iv = .int .i64 i ∧ Hid (IsPart 87 g M (i * 3) (mk1 k) wr) ∧ Hid (Only g w wr)) (fun _ iv _ => n - (intOf iv).toNat)
  case atStart => exact ⟨0, Nat.zero_le _, by simp, rfl, by simpa using H, Only.refl _ _⟩
  case round =>
    obtain ⟨i, hi, rfl, rfl, hP, hO⟩ := hrel
    clear H
    by_cases hlt : i < n
    · have hltz : (i : Int) < (n : Int) := by omega
      obtain ⟨v0, y0⟩ := hP.out.cell (j := i * 3) (by omega)
      have z0 := hP.out.frozen (i * 3)
      obtain ⟨v1, y1⟩ := hP.out.cell (j := i * 3 + 1) (by omega)
      have z1 := hP.out.frozen (i * 3 + 1)
      obtain ⟨v2, y2⟩ := hP.out.cell (j := i * 3 + 2) (by omega)
      have z2 := hP.out.frozen (i * 3 + 2)
      have zg : g < wr.heap.size := hP.out.lt
      obtain ⟨K, hK⟩ : ∃ K : Nat, K = k + i * 3 := ⟨_, rfl⟩
      rw [← hK]
      have hK2 : K ≤ 2147483648 := by omega
      have HP5 := Lib.hid ((((hP.out.put ((K : Int)) (by unfold mk1; omega)).put ((K : Int) + 1) (by unfold mk1; omega)).put ((K : Int) + 1 + 1) (by unfold mk1; omega)))
      have HO5 := Lib.hid ((((hO.out.set (i * 3) (.int .i64 ((K : Int)))).set (i * 3 + 1) (.int .i64 ((K : Int) + 1))).set (i * 3 + 2) (.int .i64 ((K : Int) + 1 + 1))))
      have HKE : Hid (K = k + i * 3) := hK
      clear hP hO hK
      go_wp2_with fail
      go_roundw
      case rel =>
        refine ⟨i + 1, by omega, ?_, by go_num, by rw [Nat.succ_mul]; exact HP5, HO5⟩
        have := HKE.out
        congr 1; omega
      case measure => simp [intOf]; omega
    · obtain rfl : i = n := by omega
      go_wp2_with fail
      go_ret
      exact ⟨rfl, hP.out.full (by omega), hO.out⟩
set_option maxRecDepth 100000 in
set_option maxHeartbeats 2000000 in
theorem nmarkOpS_nil (k : Nat) (w : World) :
    Calls Tryz.prog 31 #[.slice none 0 0, .int .i64 k] w fun e w' => e = .returned (.int .i64 k) ∧ w' = w := by
  go_enter Tryz.func31, Tryz.ntmps31
  go_wp2_with fail
  go_loopw [1, 5] (fun kv iv wr => kv = .int .i64 k ∧ iv = .int .i64 0 ∧ wr = w) (fun _ _ _ => 0)
  case atStart => exact ⟨rfl, rfl, rfl⟩
  case round =>
    obtain ⟨rfl, rfl, rfl⟩ := hrel
    go_wp2_with fail
    go_ret
    exact ⟨rfl, rfl⟩
end Go.Proofs.YtogfjomfhenhfaaGreatDoor
namespace Go.Proofs.YtogfjomfhenhfaaGreatDoor
open Go.RowKit Go.Deep

/-- The cells of ops. -/
def opV (l : List Pc.Op) : List Value := l.flatMap fun x => [.int .i64 x.1, .int .i64 x.2.1, .int .i64 x.2.2]
theorem opV_app (l m : List Pc.Op) : opV (l ++ m) = opV l ++ opV m := by simp [opV]
theorem opV_len (l : List Pc.Op) : (opV l).length = l.length * 3 := by
  induction l with
  | nil => rfl
  | cons x l ih => simp only [opV, List.flatMap_cons, List.length_append, List.length_cons, List.length_nil] at ih ⊢; omega
theorem opV_get (l : List Pc.Op) (j : Nat) (h : j < l.length * 3) : (opV l)[j]? = some (.int .i64 (Pc.fl l j)) := by
  induction l generalizing j with
  | nil => simp at h
  | cons x l ih =>
    match j with
    | 0 => rfl
    | 1 => rfl
    | 2 => rfl
    | j + 3 =>
      rw [Pc.fl_tail, ← ih j (by simp at h; omega)]
      rfl
theorem opV_one (l : List Pc.Op) : ∀ u ∈ opV l, u.oneCell' = true := by
  intro u hu
  simp only [opV, List.mem_flatMap] at hu
  obtain ⟨x, _, hx⟩ := hu
  simp at hx
  rcases hx with rfl | rfl | rfl <;> rfl
theorem ops_new (w : World) (m : List Pc.Op) (T : TypeId) : ∀ j u, (opV m)[j]? = some u → (w.alloc (.cells ⟨opV m⟩ T)).cell? ((⟨w.heap.size, 0, none⟩ : Addr).add j) = some u := by
  intro j u h
  obtain ⟨hj, hu⟩ := List.getElem?_eq_some_iff.1 h
  have := (rowN_alloc w (opV m) T).cell (i := j) hj
  rw [Addr.add_lit, Nat.zero_add, this]
  unfold rowN
  rw [List.getD_eq_getElem?_getD, h]; rfl
/-- A list of ops that is owned. -/
theorem own_ops {T : TypeId} {B : Nat} {v : Value} {l : List Pc.Op} {w : World} (h : w.ownsRow B T 3 v l.length (opV l)) :
    ∃ a cap, v = .slice a l.length cap ∧ CyO T B (l.length * 3) a cap (Pc.fl l) w := by
  rcases h.2 with ⟨rfl, h2⟩ | ⟨g, cap, cur, rfl, e2, e3, e4, e5, e6, e7⟩
  · exact ⟨none, 0, by rw [h2], Or.inl ⟨rfl, by rw [h2], rfl⟩⟩
  · refine ⟨_, cap, rfl, Or.inr ⟨g, rfl, e2, cap * 3, fun i => cur[i]?.getD undef, by omega, ⟨cur, e3, e6, fun i hi => ?_⟩, fun j hj => ?_⟩⟩
    · show cur[i]? = some (cur[i]?.getD undef)
      rw [Array.getElem?_eq_getElem (by omega)]
      rfl
    · have h1 : (cur.toList.take (l.length * 3))[j]? = (opV l)[j]? := by rw [e7]
      rw [List.getElem?_take, if_pos hj, Array.getElem?_toList, opV_get l j hj] at h1
      show cur[j]?.getD undef = _
      rw [h1]; rfl
section
theorem opinfo : (Tryz.prog.info? 87).map (fun i => (i.zero, i.size, i.bytes)) = some (some (.agg #[.int .i64 0, .int .i64 0, .int .i64 0]), 3, 24) := by kernel_rfl
theorem run_append_ops (w : World) (ty : TypeId) (B : Nat) (v : Value) (l m : List Pc.Op) (hown : w.ownsRow B 87 3 v l.length (opV l)) (ad : Addr) (k : Nat) (hm : ∀ j u, (opV m)[j]? = some u → w.cell? (ad.add j) = some u)
    (h63 : l.length + m.length ≤ 1000000) (hB : B ≤ w.heap.size) :
    ∃ v' w', (Builtin.append_ #[46, 46] ty #[v, .slice (some ad) m.length k]).run Tryz.prog w = .ok v' w' ∧ w'.ownsRow B 87 3 v' (l ++ m).length (opV (l ++ m)) ∧ w.grownBy w' v.ownBlock := by
  obtain ⟨i0, hi, hz0, hz1, hz2⟩ := info_parts opinfo
  obtain ⟨v', w', hr, h1, h2, _⟩ := run_append_own (P := Tryz.prog) w B 46 ty 87 i0 _ 3 24 Tryz.underlying46 hi hz0 hz1 hz2 rfl (by decide) v l.length (opV l) hown ad m.length k (opV m) (opV_len m) hm (opV_one m) (by unfold maxLen; omega) (by omega) hB
  exact ⟨v', w', hr, by rw [List.length_append, opV_app]; exact h1, h2⟩
theorem wp_append_ops {o : Oper} {a : Act} {w : World} {K : Act → World → Prop} {Q : Exit → Act → World → Prop} (s x : Operand)
    (ho : o.op = .call { callee := .builtin .append, args := #[s, x], argTypes := #[46, 46] })
    (B : Nat) (v : Value) (l m : List Pc.Op) (hv : a.eval s = v) (hown : w.ownsRow B 87 3 v l.length (opV l)) (ad : Addr) (n k : Nat) (hx : a.eval x = .slice (some ad) n k) (hn : n = m.length) (hm : ∀ j u, (opV m)[j]? = some u → w.cell? (ad.add j) = some u)
    (h63 : l.length + m.length ≤ 1000000) (hB : B ≤ w.heap.size)
    (hK : ∀ v' w', w'.ownsRow B 87 3 v' (l ++ m).length (opV (l ++ m)) → w.grownBy w' v.ownBlock → K (a.put o.dst v') w') : o.wp Tryz.prog a w K Q := by
  subst hn
  obtain ⟨v', w', hr, h2, h3⟩ := run_append_ops w o.type B v l m hown ad k hm h63 hB
  unfold Oper.wp execOp
  simp only [ho, resolve, invoke, builtin, Sem.run_bind, Sem.run_pure, Result.andThen_ok, List.map_toArray, List.map_cons, List.map_nil, hv, hx, hr]
  exact hK v' w' h2 h3
theorem wpList_append_ops {ops : Array Oper} {rest : List Oper} {o : Oper} {a : Act} {w : World} {Q : Exit → Act → World → Prop} (hgd : o.guard = none) (s x : Operand)
    (ho : o.op = .call { callee := .builtin .append, args := #[s, x], argTypes := #[46, 46] })
    (B : Nat) (v : Value) (l m : List Pc.Op) (hv : a.eval s = v) (hown : w.ownsRow B 87 3 v l.length (opV l)) (ad : Addr) (n k : Nat) (hx : a.eval x = .slice (some ad) n k) (hn : n = m.length) (hm : ∀ j u, (opV m)[j]? = some u → w.cell? (ad.add j) = some u)
    (h63 : l.length + m.length ≤ 1000000) (hB : B ≤ w.heap.size)
    (hK : ∀ v' w', w'.ownsRow B 87 3 v' (l ++ m).length (opV (l ++ m)) → w.grownBy w' v.ownBlock → wpList Tryz.prog ops Q rest (a.put o.dst v') w') : wpList Tryz.prog ops Q (o :: rest) a w :=
  wpList_plain hgd fun _ hK2 => wp_append_ops s x ho B v l m hv hown ad n k hx hn hm h63 hB fun v' w' h2 h3 => hK2 _ _ (hK v' w' h2 h3)
theorem step_append_ops {ops : Array Oper} {o : Oper} {a : Act} {w : World} {K : Act → World → Prop} {Q : Exit → Act → World → Prop} {E : Prop} (hg : o.guard = none) (s x : Operand)
    (ho : o.op = .call { callee := .builtin .append, args := #[s, x], argTypes := #[46, 46] })
    (B : Nat) (v : Value) (l m : List Pc.Op) (hv : a.eval s = v) (hown : w.ownsRow B 87 3 v l.length (opV l)) (ad : Addr) (n k : Nat) (hx : a.eval x = .slice (some ad) n k) (hn : n = m.length) (hm : ∀ j u, (opV m)[j]? = some u → w.cell? (ad.add j) = some u)
    (h63 : l.length + m.length ≤ 1000000) (hB : B ≤ w.heap.size)
    (hK : ∀ v' w', w'.ownsRow B 87 3 v' (l ++ m).length (opV (l ++ m)) → w.grownBy w' v.ownBlock → K (a.put o.dst v') w') :
    if Region.wanted o (yielded ops a.tmps) = true then Oper.wp Tryz.prog o a w K Q else E := by
  have hw : Region.wanted o (yielded ops a.tmps) = true := by simp [Region.wanted, hg]
  rw [if_pos hw]
  exact wp_append_ops s x ho B v l m hv hown ad n k hx hn hm h63 hB hK
end
/-- Old memory stays behind such an append. -/
theorem cy_grown {B : Nat} {w W W' : World} {row : Option Nat} (h : Below B w W) (hs : B ≤ W.heap.size) (hg : W.grownBy W' row) (hr : ∀ k, row = some k → B ≤ k) : Below B w W' :=
  ⟨hg.os.trans h.os, hg.tape.trans h.tape, hg.output.trans h.output, Nat.le_trans h.size hg.size, fun k hk => (hg.block k (by omega) (fun e => by have := hr k e.symm; omega)).trans (h.block k hk)⟩
end Go.Proofs.YtogfjomfhenhfaaGreatDoor
namespace Go.Proofs.YtogfjomfhenhfaaGreatDoor
open Go.RowKit Go.Deep





theorem ninfo_i64 : (Tryz.prog.info? 2).map (fun i => (i.zero, i.size, i.bytes)) = some (some (.int .i64 0), 1, 8) := by kernel_rfl
abbrev nmkO (n : Nat) : Obj := .cells (madeCells #[.int .i64 0] n) 2
set_option maxRecDepth 100000 in
set_option maxHeartbeats 2000000 in
theorem ntoInt64S_any (a : Option Addr) (n cap : Nat) (f : Nat → Int) (w : World) (h : IsIn a n f w) (hn : n ≤ 1048576) :
    Calls Tryz.prog 26 #[.slice a n cap] w fun e w' => (e = .returned (.slice (some ⟨w.heap.size, 0, none⟩) n n) ∧ IsBlk 2 w.heap.size n f w') ∧ Below w.heap.size w w' := by
  have hmk := run_make_row' (P := Tryz.prog) 24 2 (.int .i64 0) 8 Tryz.underlying24 ninfo_i64 rfl .i64 .i64 n (by omega) (by omega)
  have H := Lib.hid h
  have HST : Hid (IsPart 2 w.heap.size n 0 f (w.alloc (nmkO n))) := ⟨_, World.rowIs_made w (.int .i64 0) n 2, fun j hj => absurd hj (by omega)⟩
  clear h
  go_enter Tryz.func26, Tryz.ntmps26
  go_wp2_with fail
  clear hmk
  go_loopw [4] (fun iv wr => ∃ (i : Nat), i ≤ n ∧ iv = .int .i64 i ∧ Hid (IsPart 2 w.heap.size n i f wr) ∧ Hid (Below w.heap.size w wr)) (fun iv _ => n - (intOf iv).toNat)
  case atStart => exact ⟨0, Nat.zero_le _, rfl, HST, (Below.refl _ _).alloc (Nat.le_refl _) _⟩
  case round =>
    obtain ⟨i, hi, rfl, hP, hB⟩ := hrel
    clear HST
    by_cases hlt : i < n
    · have hltz : (i : Int) < (n : Int) := by omega
      obtain ⟨b, o, rfl, c0⟩ := (H.out.below hB.out).at1 hlt
      have HP2 := Lib.hid (hP.out.put (f i) rfl)
      obtain ⟨v0, y0⟩ := hP.out.cell (j := i) (by omega)
      have z0 := hP.out.frozen i
      have hz : w.heap.size < wr.heap.size := hP.out.lt
      clear hP
      go_wp2_with fail
      go_roundw
      case rel => exact ⟨i + 1, by omega, by go_num, HP2, hB.out.setCell (p := ⟨w.heap.size, i, none⟩) (Nat.le_refl _) _⟩
      case measure => simp [intOf]; omega
    · obtain rfl : i = n := by omega
      go_wp2_with fail
      go_ret
      exact ⟨⟨rfl, hP.out.full (Nat.le_refl _)⟩, hB.out⟩
theorem nszInt64_in (a : Option Addr) (n cap : Nat) (l : Nat) (w : World) (hn : n ≤ l) (hl : l ≤ 1048576) :
    Calls Tryz.prog 53 #[.slice a n cap, .int .i64 l] w fun e w' => e = .returned (.int .i64 ((l - n : Nat) : Int)) ∧ w' = w := by
  have h1 : ¬ ((l : Int) - (n : Int)) < 0 := by omega
  have h2 : ((l : Int) - (n : Int)) = ((l - n : Nat) : Int) := by omega
  have h3 : ¬ (((l - n : Nat) : Int)) < 0 := by omega
  have h4 : ((l - n : Nat) : Int) ≤ 1048576 := by omega
  have h5 : 0 ≤ ((l - n : Nat) : Int) := by omega
  have h6 : (n : Int) ≤ 1048576 := by omega
  have h7 : (l : Int) ≤ 1048576 := by omega
  go_enter Tryz.func53, Tryz.ntmps53
  go_wp2_with fail
  go_ret
  exact ⟨ret_int (by omega), rfl⟩
theorem nszInt64_over (a : Option Addr) (n cap : Nat) (l : Nat) (w : World) (hn : l < n) (hl : l ≤ 1048576) (hm : n ≤ 9223372036854775807) :
    Calls Tryz.prog 53 #[.slice a n cap, .int .i64 l] w fun e w' => e = .returned (.int .i64 (-1)) ∧ w' = w := by
  have h1 : ((l : Int) - (n : Int)) < 0 := by omega
  have h7 : (l : Int) ≤ 1048576 := by omega
  have h8 : (n : Int) ≤ 9223372036854775807 := by omega
  go_enter Tryz.func53, Tryz.ntmps53
  go_wp2_with fail
  go_ret
  exact ⟨rfl, rfl⟩
set_option maxRecDepth 100000 in
set_option maxHeartbeats 2000000 in
theorem neqInt64S_same (a b : Option Addr) (n ca cb : Nat) (f : Nat → Int) (w : World) (h1 : IsAt a n f w) (h2 : IsAt b n f w) (hn : n ≤ 1048576) :
    Calls Tryz.prog 30 #[.slice a n ca, .slice b n cb] w fun e w' => e = .returned (.bool true) ∧ Below w.heap.size w w' := by
  have H1 := Lib.hid h1
  have H2 := Lib.hid h2
  clear h1 h2
  go_enter Tryz.func30, Tryz.ntmps30
  go_wp2_with fail
  go_loopw [5] (fun iv wr => ∃ (i : Nat), i ≤ n ∧ iv = .int .i64 i ∧ Hid (Below w.heap.size w wr)) (fun iv _ => n - (intOf iv).toNat)
  case atStart => exact ⟨0, Nat.zero_le _, rfl, Below.refl _ _⟩
  case round =>
    obtain ⟨i, hi, rfl, hB⟩ := hrel
    by_cases hlt : i < n
    · have hltz : (i : Int) < (n : Int) := by omega
      obtain ⟨b1, rfl, k1⟩ := (H1.out.below hB.out).at1 hlt
      obtain ⟨b2, rfl, k2⟩ := (H2.out.below hB.out).at1 hlt
      go_wp2_with fail
      go_region
      go_wp2_with fail
      go_roundw
      case rel => exact ⟨i + 1, by omega, by go_num, hB.out.drew⟩
      case measure => simp [intOf]; omega
    · obtain rfl : i = n := by omega
      go_wp2_with fail
      go_ret
      exact ⟨rfl, hB.out⟩
set_option maxRecDepth 100000 in
set_option maxHeartbeats 2000000 in
theorem nmarkInt64S_any (g n c k : Nat) (f : Nat → Int) (w : World) (h : IsBlk 2 g n f w) (hn : n ≤ 1048576) (hk : k ≤ 1073741824) :
    Calls Tryz.prog 33 #[.slice (some ⟨g, 0, none⟩) n c, .int .i64 k] w fun e w' => e = .returned (.int .i64 ((k + n : Nat) : Int)) ∧ IsBlk 2 g n (mk1 k) w' ∧ Only g w w' := by
  obtain ⟨M, F0, hM, hR, _⟩ := h
  have H : Hid (IsPart 2 g M 0 (mk1 k) w) := ⟨F0, hR, fun j hj => absurd hj (Nat.not_lt_zero _)⟩
  clear hR
  go_enter Tryz.func33, Tryz.ntmps33
  go_wp2_with fail
  go_loopw [1, 5] (fun kv iv wr => ∃ (i : Nat), i ≤ n ∧ kv = .int .i64 ((k + i : Nat) : Int) ∧ iv = .int .i64 i ∧ Hid (IsPart 2 g M i (mk1 k) wr) ∧ Hid (Only g w wr)) (fun _ iv _ => n - (intOf iv).toNat)
  case atStart => exact ⟨0, Nat.zero_le _, by simp, rfl, H, Only.refl _ _⟩
  case round =>
    obtain ⟨i, hi, rfl, rfl, hP, hO⟩ := hrel
    clear H
    by_cases hlt : i < n
    · have hltz : (i : Int) < (n : Int) := by omega
      obtain ⟨v0, c0⟩ := hP.out.cell (j := i) (by omega)
      have f0 := hP.out.frozen i
      have zg : g < wr.heap.size := hP.out.lt
      obtain ⟨K, hK⟩ : ∃ K : Nat, K = k + i := ⟨_, rfl⟩
      rw [← hK]
      have hK2 : K ≤ 2147483648 := by omega
      have HP5 := Lib.hid (hP.out.put (K : Int) (by unfold mk1; omega))
      have HO5 := Lib.hid (hO.out.set i (.int .i64 (K : Int)))
      have HKE : Hid (K = k + i) := hK
      clear hP hO hK
      go_wp2_with fail
      go_roundw
      case rel =>
        refine ⟨i + 1, by omega, ?_, by go_num, HP5, HO5⟩
        have := HKE.out
        congr 1; omega
      case measure => simp [intOf]; omega
    · obtain rfl : i = n := by omega
      go_wp2_with fail
      go_ret
      exact ⟨rfl, hP.out.full (by omega), hO.out⟩
set_option maxRecDepth 100000 in
set_option maxHeartbeats 2000000 in
theorem nmarkInt64S_nil (k : Nat) (w : World) :
    Calls Tryz.prog 33 #[.slice none 0 0, .int .i64 k] w fun e w' => e = .returned (.int .i64 k) ∧ w' = w := by
  go_enter Tryz.func33, Tryz.ntmps33
  go_wp2_with fail
  go_loopw [1, 5] (fun kv iv wr => kv = .int .i64 k ∧ iv = .int .i64 0 ∧ wr = w) (fun _ _ _ => 0)
  case atStart => exact ⟨rfl, rfl, rfl⟩
  case round =>
    obtain ⟨rfl, rfl, rfl⟩ := hrel
    go_wp2_with fail
    go_ret
    exact ⟨rfl, rfl⟩
set_option maxRecDepth 100000 in
set_option maxHeartbeats 2000000 in
theorem nheldInt64S_any (g n c k : Nat) (w : World) (h : IsBlk 2 g n (mk1 k) w) (hn : n ≤ 1048576) (hk : k ≤ 1073741824) :
    Calls Tryz.prog 59 #[.slice (some ⟨g, 0, none⟩) n c, .int .i64 k] w fun e w' => e = .returned (.int .i64 ((k + n : Nat) : Int)) ∧ w' = w := by
  have H := Lib.hid h
  clear h
  go_enter Tryz.func59, Tryz.ntmps59
  go_wp2_with fail
  go_loopw [1, 5] (fun kv iv wr => ∃ (i : Nat), i ≤ n ∧ kv = .int .i64 ((k + i : Nat) : Int) ∧ iv = .int .i64 i ∧ Hid (wr = w)) (fun _ iv _ => n - (intOf iv).toNat)
  case atStart => exact ⟨0, Nat.zero_le _, by simp, rfl, rfl⟩
  case round =>
    obtain ⟨i, hi, rfl, rfl, hW⟩ := hrel
    obtain rfl := hW.out
    clear hW
    by_cases hlt : i < n
    · have hltz : (i : Int) < (n : Int) := by omega
      obtain ⟨K, hK⟩ : ∃ K : Nat, K = k + i := ⟨_, rfl⟩
      have c0 : wr.cell? ⟨g, i, none⟩ = some (.int .i64 (K : Int)) := (H.out.cell (i := i) (by omega)).trans (by unfold mk1; rw [hK])
      rw [← hK]
      have hK2 : K ≤ 2147483648 := by omega
      have HKE : Hid (K = k + i) := hK
      clear hK
      go_wp2_with fail
      go_roundw
      case rel =>
        refine ⟨i + 1, by omega, ?_, by go_num, by first | exact rfl | exact (trivial : True)⟩
        have := HKE.out
        congr 1; omega
      case measure => simp [intOf]; omega
    · obtain rfl : i = n := by omega
      go_wp2_with fail
      go_ret
      exact ⟨rfl, rfl⟩
set_option maxRecDepth 100000 in
set_option maxHeartbeats 2000000 in
theorem nheldInt64S_nil (k : Nat) (w : World) :
    Calls Tryz.prog 59 #[.slice none 0 0, .int .i64 k] w fun e w' => e = .returned (.int .i64 k) ∧ w' = w := by
  go_enter Tryz.func59, Tryz.ntmps59
  go_wp2_with fail
  go_loopw [1, 5] (fun kv iv wr => kv = .int .i64 k ∧ iv = .int .i64 0 ∧ wr = w) (fun _ _ _ => 0)
  case atStart => exact ⟨rfl, rfl, rfl⟩
  case round =>
    obtain ⟨rfl, rfl, rfl⟩ := hrel
    go_wp2_with fail
    go_ret
    exact ⟨rfl, rfl⟩
end Go.Proofs.YtogfjomfhenhfaaGreatDoor
namespace Go.Proofs.YtogfjomfhenhfaaGreatDoor
open Go.RowKit Go.Deep

theorem cyhs (w : World) (p g : Nat) (hp : g ≠ p) (i : Nat) (a : Value) : (w.setCell ⟨p, i, none⟩ a).heap[g]? = w.heap[g]? := Below.heap_setCell _ _ _ _ hp
set_option maxRecDepth 100000 in
set_option maxHeartbeats 8000000 in
theorem toLogic_any (s : Cy.Lg) (a : Option Addr) (k : Nat) (b : Option Addr) (l : Nat) (w : World) (h : LgIn s a b w) (hs : LgSmall s) :
    Calls Tryz.prog 25 #[lgV s a k b l] w fun e w' => (∃ ga gb, e = .returned (lgV s (some ⟨ga, 0, none⟩) s.n (some ⟨gb, 0, none⟩) s.m) ∧ LgO 2 w.heap.size s.n s.n s.m s.m (some ⟨ga, 0, none⟩) (some ⟨gb, 0, none⟩) s.T s.C w') ∧ Below w.heap.size w w' := by
  obtain ⟨W, hW⟩ : ∃ W, W = ((w.alloc (.cells (lgA s a k b l) 54)).alloc (.cells #[.slice none 0 0, .slice none 0 0, .bool false] 33)).alloc (.cells #[.slice none 0 0, .slice none 0 0, .bool false] 33) := ⟨_, rfl⟩
  have hsz : W.heap.size = w.heap.size + 3 := by rw [hW]; simp
  have hB : Below w.heap.size w W := by rw [hW]; exact (((Below.refl _ _).alloc (Nat.le_refl _) _).alloc (by simp) _).alloc (by simp; omega) _
  have RA : W.rowIs w.heap.size 54 3 (rowN (lgL s a k b l)) := by
    rw [hW]; exact nrow_below (nrow_below (rowN_alloc w _ _) (nbel_alloc _ _)) (nbel_alloc _ _)
  have RO : W.rowIs (w.heap.size + 1) 33 3 (rowN [.slice none 0 0, .slice none 0 0, .bool false]) := by
    rw [hW]; exact nrow_below (rowN_alloc' (by simp) _ _) (nbel_alloc _ _)
  have RP : W.rowIs (w.heap.size + 1 + 1) 33 3 (rowN [.slice none 0 0, .slice none 0 0, .bool false]) := by
    rw [hW]; exact rowN_alloc' (by simp) _ _
  have HW := Lib.hid hW
  have HB := Lib.hid hB
  have H := Lib.hid h
  have HS := Lib.hid hs
  have HRA := Lib.hid RA
  have HRO := Lib.hid RO
  have HRP := Lib.hid RP
  have HSZ := Lib.hid hsz
  clear hW hB h hs RA RO RP hsz
  go_enter Tryz.func25, Tryz.ntmps25
  go_wp2_with fail
  rw [← HW.out]
  refine (ntoInt64S_any a s.n k s.T _ (H.out.t.below HB.out) HS.out.1).mono ?_
  rintro e w1 ⟨⟨rfl, hk1⟩, hb1⟩
  have RA1 := nrow_below HRA.out hb1
  have RO1 := nrow_below HRO.out hb1
  have RP1 := nrow_below HRP.out hb1
  have HB1 : Hid (Below w.heap.size w w1) := HB.out.trans (hb1.mono HB.out.size)
  have HK1 := Lib.hid hk1
  obtain ⟨⟨a0, a1, a2⟩, _⟩ := rowN3 RA1
  obtain ⟨⟨p0, p1, p2⟩, z0, z1, z2⟩ := rowN3 RP1
  have hl1 : w.heap.size + 1 + 1 < w1.heap.size := RP1.lt
  obtain ⟨W2, hW2⟩ : ∃ W2, W2 = w1.setCell ⟨w.heap.size + 1 + 1, 0, none⟩ (.slice (some ⟨W.heap.size, 0, none⟩) s.n s.n) := ⟨_, rfl⟩
  have HW2 := Lib.hid hW2
  have HRA2 : Hid (W2.rowIs w.heap.size 54 3 (rowN (lgL s a k b l))) := by
    show W2.rowIs _ _ _ _
    rw [hW2]; exact nrow_set RA1 (p := ⟨w.heap.size + 1 + 1, 0, none⟩) (by show w.heap.size ≠ w.heap.size + 1 + 1; omega) _
  have HRO2 : Hid (W2.rowIs (w.heap.size + 1) 33 3 (rowN [.slice none 0 0, .slice none 0 0, .bool false])) := by
    show W2.rowIs _ _ _ _
    rw [hW2]; exact nrow_set RO1 (p := ⟨w.heap.size + 1 + 1, 0, none⟩) (by show w.heap.size + 1 ≠ w.heap.size + 1 + 1; omega) _
  have HRP2 : Hid (W2.rowIs (w.heap.size + 1 + 1) 33 3 (rowN [.slice (some ⟨W.heap.size, 0, none⟩) s.n s.n, .slice none 0 0, .bool false])) := by
    show W2.rowIs _ _ _ _
    rw [hW2]; exact rowN_put RP1 0 _ (by simp)
  have HB2 : Hid (Below w.heap.size w W2) := by
    show Below _ _ _
    rw [hW2]; exact HB1.out.setCell (p := ⟨w.heap.size + 1 + 1, 0, none⟩) (by show w.heap.size ≤ w.heap.size + 1 + 1; omega) _
  have HK2 : Hid (IsBlk 2 W.heap.size s.n s.T W2) := by
    show IsBlk _ _ _ _ _
    rw [hW2]; exact HK1.out.block (cyhs _ _ _ (by have := HSZ.out; omega) _ _)
  clear hW2 RA1 RO1 RP1 hb1 hk1 HK1 HB1
  go_wp2_with fail
  rw [← HW2.out]
  refine (ntoInt64S_any b s.m l s.C _ (H.out.c.below HB2.out) HS.out.2).mono ?_
  rintro e w2 ⟨⟨rfl, hk2⟩, hb2⟩
  clear a0 a1 a2 p0 p1 p2 z0 z1 z2 hl1
  have RA1 := nrow_below HRA2.out hb2
  have RO1 := nrow_below HRO2.out hb2
  have RP1 := nrow_below HRP2.out hb2
  have HB3 : Hid (Below w.heap.size w w2) := HB2.out.trans (hb2.mono HB2.out.size)
  have HKA : Hid (IsBlk 2 W.heap.size s.n s.T w2) := HK2.out.below hb2
  have HKB := Lib.hid hk2
  have HLW : Hid (W.heap.size < W2.heap.size) := HK2.out.lt
  obtain ⟨⟨a0, a1, a2⟩, _⟩ := rowN3 RA1
  obtain ⟨⟨p0, p1, p2⟩, z0, z1, z2⟩ := rowN3 RP1
  obtain ⟨⟨o0, o1, o2⟩, y0, y1, y2⟩ := rowN3 RO1
  have hl2 : w.heap.size + 1 + 1 < w2.heap.size := RP1.lt
  have HRO5 := Lib.hid RO1
  clear RA1 RO1 RP1 hb2 hk2 HK2 HB2 HRA2 HRO2 HRP2
  go_wp2_with fail
  have s3 := HSZ.out
  have s4 := HLW.out
  refine bodyPost_ret (v := lgV s (some ⟨W.heap.size, 0, none⟩) s.n (some ⟨W2.heap.size, 0, none⟩) s.m) ?_ rfl ⟨⟨_, _, rfl, ⟨Or.inr ⟨_, rfl, by omega, HKA.out.block ?_⟩, Or.inr ⟨_, rfl, by omega, HKB.out.block ?_⟩, fun k e e' => by have q := e.trans e'.symm; simp at q <;> omega⟩⟩, ?_⟩
  · obtain ⟨⟨x0, x1, x2⟩, _⟩ := rowN3 (rowN_put (rowN_put (rowN_put (nrow_set (nrow_set HRO5.out (p := ⟨w.heap.size + 1 + 1, 1, none⟩) (by show w.heap.size + 1 ≠ w.heap.size + 1 + 1; omega) (.slice (some ⟨W2.heap.size, 0, none⟩) s.m s.m)) (p := ⟨w.heap.size + 1 + 1, 2, none⟩) (by show w.heap.size + 1 ≠ w.heap.size + 1 + 1; omega) (.bool s.fl)) 0 (.slice (some ⟨W.heap.size, 0, none⟩) s.n s.n) (by simp)) 1 (.slice (some ⟨W2.heap.size, 0, none⟩) s.m s.m) (by simp)) 2 (.bool s.fl) (by simp))
    simp only [results, Tryz.results25]
    simp [go_sem, x0, x1, x2]
  · repeat rw [cyhs _ _ _ (by omega)]
  · repeat rw [cyhs _ _ _ (by omega)]
  · exact ((((HB3.out.setCell (p := ⟨w.heap.size + 1 + 1, 1, none⟩) (by show w.heap.size ≤ w.heap.size + 1 + 1; omega) _).setCell (p := ⟨w.heap.size + 1 + 1, 2, none⟩) (by show w.heap.size ≤ w.heap.size + 1 + 1; omega) _).setCell (p := ⟨w.heap.size + 1, 0, none⟩) (by show w.heap.size ≤ w.heap.size + 1; omega) _).setCell (p := ⟨w.heap.size + 1, 1, none⟩) (by show w.heap.size ≤ w.heap.size + 1; omega) _).setCell (p := ⟨w.heap.size + 1, 2, none⟩) (by show w.heap.size ≤ w.heap.size + 1; omega) _
/-- What is left: below nought, or all is small. -/
def LgSz (s : Cy.Lg) (e : Ending) : Prop := ∃ z : Int, e = .returned (.int .i64 z) ∧ (z < 0 ∨ ((0 ≤ z ∧ z ≤ 1048576) ∧ LgSmall s))
set_option maxRecDepth 100000 in
set_option maxHeartbeats 2000000 in
theorem szLogic_any (s : Cy.Lg) (a : Option Addr) (k : Nat) (b : Option Addr) (l L : Nat) (w : World) (h1 : LgLens s) (hL : L ≤ 1048576) :
    Calls Tryz.prog 22 #[lgV s a k b l, .int .i64 (L : Int)] w fun e w' => LgSz s e ∧ Below w.heap.size w w' := by
  have hB := Lib.hid (nbel_alloc w (.cells (lgA s a k b l) 54))
  have hL1 := h1.1
  have hL2 := h1.2
  by_cases k1 : s.n ≤ L
  · have z1 : ¬ ((L - s.n : Nat) : Int) < 0 := by omega
    by_cases k2 : s.m ≤ L - s.n
    · have z2 : ¬ ((L - s.n - s.m : Nat) : Int) < 0 := by omega
      go_enter Tryz.func22, Tryz.ntmps22
      go_wp2_with fail
      refine (nszInt64_in a s.n k L _ k1 (by omega)).mono ?_
      rintro e w1 ⟨rfl, rfl⟩
      go_wp2_with fail
      refine (nszInt64_in b s.m l (L - s.n) _ k2 (by omega)).mono ?_
      rintro e w1 ⟨rfl, rfl⟩
      go_wp2_with fail
      go_ret
      exact ⟨⟨_, rfl, Or.inr ⟨by omega, by omega, by omega⟩⟩, hB.out⟩
    · go_enter Tryz.func22, Tryz.ntmps22
      go_wp2_with fail
      refine (nszInt64_in a s.n k L _ k1 (by omega)).mono ?_
      rintro e w1 ⟨rfl, rfl⟩
      go_wp2_with fail
      refine (nszInt64_over b s.m l (L - s.n) _ (by omega) (by omega) hL2).mono ?_
      rintro e w1 ⟨rfl, rfl⟩
      go_wp2_with fail
      go_ret
      exact ⟨⟨_, rfl, Or.inl (by omega)⟩, hB.out⟩
  · go_enter Tryz.func22, Tryz.ntmps22
    go_wp2_with fail
    refine (nszInt64_over a s.n k L _ (by omega) (by omega) hL1).mono ?_
    rintro e w1 ⟨rfl, rfl⟩
    go_wp2_with fail
    go_ret
    exact ⟨⟨_, rfl, Or.inl (by omega)⟩, hB.out⟩
set_option maxRecDepth 100000 in
set_option maxHeartbeats 4000000 in
theorem eqLogic_same (s : Cy.Lg) (a b a' b' : Option Addr) (k l k' l' : Nat) (w : World) (h1 : LgAt s a b w) (h2 : LgAt s a' b' w) (hs : LgSmall s) :
    Calls Tryz.prog 29 #[lgV s a k b l, lgV s a' k' b' l'] w fun e w' => e = .returned (.bool true) ∧ Below w.heap.size w w' := by
  obtain ⟨W, hW⟩ : ∃ W, W = (w.alloc (.cells (lgA s a k b l) 33)).alloc (.cells (lgA s a' k' b' l') 33) := ⟨_, rfl⟩
  have HB : Hid (Below w.heap.size w W) := by show Below _ _ _; rw [hW]; exact ((Below.refl _ _).alloc (Nat.le_refl _) _).alloc (by simp) _
  have HRA : Hid (W.rowIs w.heap.size 33 3 (rowN (lgL s a k b l))) := by show W.rowIs _ _ _ _; rw [hW]; exact nrow_below (rowN_alloc w _ _) (nbel_alloc _ _)
  have HRO : Hid (W.rowIs (w.heap.size + 1) 33 3 (rowN (lgL s a' k' b' l'))) := by show W.rowIs _ _ _ _; rw [hW]; exact rowN_alloc' (by simp) _ _
  have hfl : (s.fl != s.fl) = false := by simp
  have HW := Lib.hid hW
  have H1 := Lib.hid h1
  have H2 := Lib.hid h2
  have HS := Lib.hid hs
  clear hW h1 h2 hs
  go_enter Tryz.func29, Tryz.ntmps29
  go_wp2_with fail
  rw [← HW.out]
  refine (neqInt64S_same a a' s.n k k' s.T _ (H1.out.below HB.out).t (H2.out.below HB.out).t HS.out.1).mono ?_
  rintro e w1 ⟨rfl, hb1⟩
  obtain ⟨⟨x0, x1, x2⟩, _⟩ := rowN3 (nrow_below HRA.out hb1)
  obtain ⟨⟨y0, y1, y2⟩, _⟩ := rowN3 (nrow_below HRO.out hb1)
  have HB1 : Hid (Below w.heap.size w w1) := HB.out.trans (hb1.mono HB.out.size)
  have HRA1 := Lib.hid (nrow_below HRA.out hb1)
  have HRO1 := Lib.hid (nrow_below HRO.out hb1)
  clear hb1 HRA HRO
  go_wp2_with fail
  refine (neqInt64S_same b b' s.m l l' s.C _ (H1.out.below HB1.out).c (H2.out.below HB1.out).c HS.out.2).mono ?_
  rintro e w2 ⟨rfl, hb2⟩
  clear x0 x1 x2 y0 y1 y2
  obtain ⟨⟨x0, x1, x2⟩, _⟩ := rowN3 (nrow_below HRA1.out hb2)
  obtain ⟨⟨y0, y1, y2⟩, _⟩ := rowN3 (nrow_below HRO1.out hb2)
  have HB2 : Hid (Below w.heap.size w w2) := HB1.out.trans (hb2.mono HB1.out.size)
  clear hb2
  go_wp2_with fail
  go_ret
  exact ⟨rfl, HB2.out⟩
theorem markCy_any {B N c k : Nat} {a : Option Addr} {f : Nat → Int} (w : World) (h : CyO 2 B N a c f w) (hn : N ≤ 1048576) (hk : k ≤ 1073741824) :
    Calls Tryz.prog 33 #[.slice a N c, .int .i64 (k : Nat)] w fun e w' => e = .returned (.int .i64 ((k + N : Nat) : Int)) ∧ CyO 2 B N a c (mk1 k) w' ∧ OnlyA [a] w w' := by
  rcases h with ⟨rfl, rfl, rfl⟩ | ⟨g, rfl, h1, h2⟩
  · exact (nmarkInt64S_nil k w).mono (fun e w' ⟨he, hw⟩ => ⟨he, Or.inl ⟨rfl, rfl, rfl⟩, by rw [hw]; exact ⟨rfl, rfl, rfl, Nat.le_refl _, fun _ _ _ => rfl⟩⟩)
  · exact (nmarkInt64S_any g N c k f w h2 hn hk).mono (fun e w' ⟨he, hi, ho⟩ => ⟨he, Or.inr ⟨g, rfl, h1, hi⟩, ho.os, ho.tape, ho.output, ho.size, fun j hj hne => ho.block j hj (fun e => hne (some ⟨g, 0, none⟩) (by simp) (by rw [e]))⟩)
theorem heldCy_any {B N c k : Nat} {a : Option Addr} (w : World) (h : CyO 2 B N a c (mk1 k) w) (hn : N ≤ 1048576) (hk : k ≤ 1073741824) :
    Calls Tryz.prog 59 #[.slice a N c, .int .i64 (k : Nat)] w fun e w' => e = .returned (.int .i64 ((k + N : Nat) : Int)) ∧ w' = w := by
  rcases h with ⟨rfl, rfl, rfl⟩ | ⟨g, rfl, h1, h2⟩
  · exact nheldInt64S_nil k w
  · exact nheldInt64S_any g N c k w h2 hn hk
set_option maxRecDepth 100000 in
set_option maxHeartbeats 4000000 in
theorem markLogic_any (s : Cy.Lg) {B k l K : Nat} {a b : Option Addr} {f g : Nat → Int} (w : World) (h : LgO 2 B s.n k s.m l a b f g w) (hs : LgSmall s) (hk : K ≤ 536870912) :
    Calls Tryz.prog 32 #[lgV s a k b l, .int .i64 (K : Nat)] w fun e w' => e = .returned (.int .i64 ((K + s.n + s.m : Nat) : Int)) ∧ LgO 2 B s.n k s.m l a b (mk1 K) (mk1 (K + s.n)) w' ∧ OnlyA [a, b] w w' := by
  obtain ⟨W, hW⟩ : ∃ W, W = w.alloc (.cells (lgA s a k b l) 33) := ⟨_, rfl⟩
  have HB : Hid (Below w.heap.size w W) := by show Below _ _ _; rw [hW]; exact nbel_alloc _ _
  have HRA : Hid (W.rowIs w.heap.size 33 3 (rowN (lgL s a k b l))) := by show W.rowIs _ _ _ _; rw [hW]; exact rowN_alloc w _ _
  have H0 := Lib.hid h
  have H := Lib.hid (h.below HB.out)
  have HS := Lib.hid hs
  have HW := Lib.hid hW
  clear hW h hs
  go_enter Tryz.func32, Tryz.ntmps32
  go_wp2_with fail
  rw [← HW.out]
  refine (markCy_any _ H.out.t HS.out.1 (by omega)).mono ?_
  rintro e w1 ⟨rfl, ho1, on1⟩
  have RA1 : w1.rowIs w.heap.size 33 3 _ := HRA.out.of_block (on1.block _ HRA.out.lt (fun x hx e => by simp at hx; subst hx; have := (H0.out.t.lt e).2; omega))
  have G1 : Hid (CyO 2 B s.m b l g w1) := H.out.c.keep (fun k e _ hk => on1.block k hk (fun x hx e2 => by simp at hx; subst hx; exact H.out.ne k e2 e))
  have F1 := Lib.hid ho1
  have ON1 := Lib.hid on1
  obtain ⟨⟨x0, x1, x2⟩, _⟩ := rowN3 RA1
  clear ho1 on1 RA1
  obtain ⟨Q, hQ⟩ : ∃ Q : Nat, Q = K + s.n := ⟨_, rfl⟩
  rw [← hQ]
  have HQ := Lib.hid hQ
  have hQ2 : Q ≤ 537919488 := by have := HS.out.1; omega
  clear hQ
  go_wp2_with fail
  refine (markCy_any _ G1.out HS.out.2 (by omega)).mono ?_
  rintro e w2 ⟨rfl, ho2, on2⟩
  have F2 := Lib.hid ho2
  have ON2 := Lib.hid on2
  clear ho2 on2 x0 x1 x2
  go_wp2_with fail
  go_ret
  refine ⟨by rw [← HQ.out]; rfl, ⟨F1.out.keep (fun k e _ hk => ON2.out.block k hk (fun x hx e2 => by simp at hx; subst hx; exact H.out.ne k e e2)), by rw [← HQ.out]; exact F2.out, H.out.ne⟩, ?_⟩
  exact (OnlyA.of_below HB.out).trans ((ON1.out.wide (by simp)).trans (ON2.out.wide (by simp)))
set_option maxRecDepth 100000 in
set_option maxHeartbeats 4000000 in
theorem heldLogic_any (s : Cy.Lg) {B k l K : Nat} {a b : Option Addr} (w : World) (h : LgO 2 B s.n k s.m l a b (mk1 K) (mk1 (K + s.n)) w) (hs : LgSmall s) (hk : K ≤ 536870912) :
    Calls Tryz.prog 58 #[lgV s a k b l, .int .i64 (K : Nat)] w fun e w' => e = .returned (.int .i64 ((K + s.n + s.m : Nat) : Int)) ∧ Below w.heap.size w w' := by
  obtain ⟨W, hW⟩ : ∃ W, W = w.alloc (.cells (lgA s a k b l) 33) := ⟨_, rfl⟩
  have HB : Hid (Below w.heap.size w W) := by show Below _ _ _; rw [hW]; exact nbel_alloc _ _
  have HRA : Hid (W.rowIs w.heap.size 33 3 (rowN (lgL s a k b l))) := by show W.rowIs _ _ _ _; rw [hW]; exact rowN_alloc w _ _
  have H := Lib.hid (h.below HB.out)
  have HS := Lib.hid hs
  have HW := Lib.hid hW
  clear hW h hs
  obtain ⟨⟨x0, x1, x2⟩, _⟩ := rowN3 HRA.out
  go_enter Tryz.func58, Tryz.ntmps58
  go_wp2_with fail
  rw [← HW.out]
  refine (heldCy_any _ H.out.t HS.out.1 (by omega)).mono ?_
  rintro e w1 ⟨rfl, e1⟩
  subst w1
  obtain ⟨Q, hQ⟩ : ∃ Q : Nat, Q = K + s.n := ⟨_, rfl⟩
  rw [← hQ]
  have G : Hid (CyO 2 B s.m b l (mk1 Q) W) := by show CyO _ _ _ _ _ _ _; rw [hQ]; exact H.out.c
  have HQ := Lib.hid hQ
  have hQ2 : Q ≤ 537919488 := by have := HS.out.1; omega
  have hz : ¬ (Q : Int) < 0 := by omega
  clear hQ
  go_wp2_with fail
  refine (heldCy_any _ G.out HS.out.2 (by omega)).mono ?_
  rintro e w2 ⟨rfl, e2⟩
  subst w2
  obtain ⟨R, hR⟩ : ∃ R : Nat, R = Q + s.m := ⟨_, rfl⟩
  rw [← hR]
  have HR := Lib.hid hR
  have hz2 : ¬ (R : Int) < 0 := by omega
  clear hR
  go_wp2_with fail
  go_ret
  exact ⟨by rw [HR.out, HQ.out]; rfl, HB.out⟩
/-- The lists of an answer, compared. -/
structure CoAt (x : Cy.Ans) (a b c : Option Addr) (w : World) : Prop where
  s : LgAt x.s a b w
  o : IsAt c x.n x.O w
theorem CoAt.below {x : Cy.Ans} {a b c : Option Addr} {w w' : World} (h : CoAt x a b c w) (hb : Below w.heap.size w w') : CoAt x a b c w' := ⟨h.s.below hb, h.o.below hb⟩
theorem CoO.at_ {T : TypeId} {B k l q : Nat} {x : Cy.Ans} {a b c : Option Addr} {W : World} (h : CoO T B x.s.n k x.s.m l x.n q a b c x.s.T x.s.C x.O W) : CoAt x a b c W := ⟨⟨h.s.t.at_, h.s.c.at_⟩, h.o.at_⟩
def CoSmall (x : Cy.Ans) : Prop := LgSmall x.s ∧ x.n ≤ 1048576
set_option maxRecDepth 100000 in
set_option maxHeartbeats 4000000 in
theorem eqCycle_same (x : Cy.Ans) (a b c a' b' c' : Option Addr) (k l m k' l' m' : Nat) (w : World) (h1 : CoAt x a b c w) (h2 : CoAt x a' b' c' w) (hs : CoSmall x) :
    Calls Tryz.prog 27 #[coV x a k b l c m, coV x a' k' b' l' c' m'] w fun e w' => e = .returned (.bool true) ∧ Below w.heap.size w w' := by
  obtain ⟨W, hW⟩ : ∃ W, W = (w.alloc (.cells (coA x a k b l c m) 38)).alloc (.cells (coA x a' k' b' l' c' m') 38) := ⟨_, rfl⟩
  have HB : Hid (Below w.heap.size w W) := by show Below _ _ _; rw [hW]; exact ((Below.refl _ _).alloc (Nat.le_refl _) _).alloc (by simp) _
  have HRA : Hid (W.rowIs w.heap.size 38 5 (rowN (coL x a k b l c m))) := by show W.rowIs _ _ _ _; rw [hW]; exact nrow_below (rowN_alloc w _ _) (nbel_alloc _ _)
  have HRO : Hid (W.rowIs (w.heap.size + 1) 38 5 (rowN (coL x a' k' b' l' c' m'))) := by show W.rowIs _ _ _ _; rw [hW]; exact rowN_alloc' (by simp) _ _
  have hcd : (x.cd != x.cd) = false := by simp
  have HW := Lib.hid hW
  have H1 := Lib.hid h1
  have H2 := Lib.hid h2
  have HS := Lib.hid hs
  clear hW h1 h2 hs
  obtain ⟨⟨x0, x1, x2, x3, x4⟩, _⟩ := rowN5 HRA.out
  obtain ⟨⟨y0, y1, y2, y3, y4⟩, _⟩ := rowN5 HRO.out
  rw [HW.out] at x0 x1 x2 x3 x4 y0 y1 y2 y3 y4
  go_enter Tryz.func27, Tryz.ntmps27
  go_wp2_with fail
  rw [← HW.out]
  clear HW x0 x1 x2 x3 x4 y0 y1 y2 y3 y4
  refine (eqLogic_same x.s a b a' b' k l k' l' _ (H1.out.below HB.out).s (H2.out.below HB.out).s HS.out.1).mono ?_
  rintro e w1 ⟨rfl, hb1⟩
  obtain ⟨⟨x0, x1, x2, x3, x4⟩, _⟩ := rowN5 (nrow_below HRA.out hb1)
  obtain ⟨⟨y0, y1, y2, y3, y4⟩, _⟩ := rowN5 (nrow_below HRO.out hb1)
  have HB1 : Hid (Below w.heap.size w w1) := HB.out.trans (hb1.mono HB.out.size)
  have HRA1 := Lib.hid (nrow_below HRA.out hb1)
  have HRO1 := Lib.hid (nrow_below HRO.out hb1)
  clear hb1 HRA HRO
  go_wp2_with fail
  refine (neqInt64S_same c c' x.n m m' x.O _ (H1.out.below HB1.out).o (H2.out.below HB1.out).o HS.out.2).mono ?_
  rintro e w2 ⟨rfl, hb2⟩
  clear x0 x1 x2 x3 x4 y0 y1 y2 y3 y4
  obtain ⟨⟨x0, x1, x2, x3, x4⟩, _⟩ := rowN5 (nrow_below HRA1.out hb2)
  obtain ⟨⟨y0, y1, y2, y3, y4⟩, _⟩ := rowN5 (nrow_below HRO1.out hb2)
  have HB2 : Hid (Below w.heap.size w w2) := HB1.out.trans (hb2.mono HB1.out.size)
  clear hb2
  go_wp2_with fail
  go_ret
  exact ⟨rfl, HB2.out⟩
set_option maxRecDepth 100000 in
set_option maxHeartbeats 4000000 in
theorem markCycle_any (x : Cy.Ans) {B k l q : Nat} {a b c : Option Addr} {f g h' : Nat → Int} (w : World) (h : CoO 2 B x.s.n k x.s.m l x.n q a b c f g h' w) (hs : CoSmall x) :
    Calls Tryz.prog 34 #[coV x a k b l c q, .int .i64 1] w fun e w' => e = .returned (.int .i64 ((1 + x.s.n + x.s.m + x.n : Nat) : Int)) ∧ CoO 2 B x.s.n k x.s.m l x.n q a b c (mk1 1) (mk1 (1 + x.s.n)) (mk1 (1 + x.s.n + x.s.m)) w' ∧ OnlyA [a, b, c] w w' := by
  obtain ⟨W, hW⟩ : ∃ W, W = w.alloc (.cells (coA x a k b l c q) 38) := ⟨_, rfl⟩
  have HB : Hid (Below w.heap.size w W) := by show Below _ _ _; rw [hW]; exact nbel_alloc _ _
  have HRA : Hid (W.rowIs w.heap.size 38 5 (rowN (coL x a k b l c q))) := by show W.rowIs _ _ _ _; rw [hW]; exact rowN_alloc w _ _
  have H0 := Lib.hid h
  have H := Lib.hid (h.below HB.out)
  have HS := Lib.hid hs
  have HW := Lib.hid hW
  clear hW h hs
  obtain ⟨⟨x0, x1, x2, x3, x4⟩, _⟩ := rowN5 HRA.out
  rw [HW.out] at x0 x1 x2 x3 x4
  go_enter Tryz.func34, Tryz.ntmps34
  go_wp2_with fail
  rw [← HW.out]
  clear HW x0 x1 x2 x3 x4
  refine (markLogic_any (K := 1) x.s _ H.out.s HS.out.1 (by omega)).mono ?_
  rintro e w1 ⟨rfl, ho1, on1⟩
  have RA1 : w1.rowIs w.heap.size 38 5 _ := HRA.out.of_block (on1.block _ HRA.out.lt (fun y hy e => by
    simp at hy
    rcases hy with rfl | rfl
    · have := (H0.out.s.t.lt e).2; omega
    · have := (H0.out.s.c.lt e).2; omega))
  have G1 : Hid (CyO 2 B x.n c q h' w1) := H.out.o.keep (fun k e _ hk => on1.block k hk (fun y hy e2 => by
    simp at hy
    rcases hy with rfl | rfl
    · exact H.out.ne.1 k e2 e
    · exact H.out.ne.2 k e2 e))
  have F1 := Lib.hid ho1
  have ON1 := Lib.hid on1
  obtain ⟨⟨x0, x1, x2, x3, x4⟩, _⟩ := rowN5 RA1
  clear ho1 on1 RA1
  obtain ⟨Q, hQ⟩ : ∃ Q : Nat, Q = 1 + x.s.n + x.s.m := ⟨_, rfl⟩
  rw [← hQ]
  have HQ := Lib.hid hQ
  have hQ2 : Q ≤ 9437184 := by have h1 := HS.out.1.1; have h2 := HS.out.1.2; omega
  clear hQ
  go_wp2_with fail
  refine (markCy_any _ G1.out HS.out.2 (by omega)).mono ?_
  rintro e w2 ⟨rfl, ho2, on2⟩
  have F2 := Lib.hid ho2
  have ON2 := Lib.hid on2
  clear ho2 on2 x0 x1 x2 x3 x4
  go_wp2_with fail
  go_ret
  refine ⟨by rw [← HQ.out]; rfl, ⟨F1.out.keep (fun j e _ hk => ON2.out.block j hk (fun y hy e2 => by
    simp at hy; subst hy
    rcases e with e | e
    · exact H.out.ne.1 j e e2
    · exact H.out.ne.2 j e e2)), by rw [← HQ.out]; exact F2.out, H.out.ne⟩, ?_⟩
  exact (OnlyA.of_below HB.out).trans ((ON1.out.wide (fun y hy => by simp at hy; rcases hy with rfl | rfl <;> simp)).trans (ON2.out.wide (by simp)))
set_option maxRecDepth 100000 in
set_option maxHeartbeats 4000000 in
theorem heldCycle_any (x : Cy.Ans) {B k l q : Nat} {a b c : Option Addr} (w : World) (h : CoO 2 B x.s.n k x.s.m l x.n q a b c (mk1 1) (mk1 (1 + x.s.n)) (mk1 (1 + x.s.n + x.s.m)) w) (hs : CoSmall x) :
    Calls Tryz.prog 35 #[coV x a k b l c q, .int .i64 1] w fun e w' => e = .returned (.int .i64 ((1 + x.s.n + x.s.m + x.n : Nat) : Int)) ∧ Below w.heap.size w w' := by
  obtain ⟨W, hW⟩ : ∃ W, W = w.alloc (.cells (coA x a k b l c q) 38) := ⟨_, rfl⟩
  have HB : Hid (Below w.heap.size w W) := by show Below _ _ _; rw [hW]; exact nbel_alloc _ _
  have HRA : Hid (W.rowIs w.heap.size 38 5 (rowN (coL x a k b l c q))) := by show W.rowIs _ _ _ _; rw [hW]; exact rowN_alloc w _ _
  have H := Lib.hid (h.below HB.out)
  have HS := Lib.hid hs
  have HW := Lib.hid hW
  clear hW h hs
  obtain ⟨⟨x0, x1, x2, x3, x4⟩, _⟩ := rowN5 HRA.out
  rw [HW.out] at x0 x1 x2 x3 x4
  go_enter Tryz.func35, Tryz.ntmps35
  go_wp2_with fail
  rw [← HW.out]
  clear HW x0 x1 x2 x3 x4
  refine (heldLogic_any (K := 1) x.s _ H.out.s HS.out.1 (by omega)).mono ?_
  rintro e w1 ⟨rfl, hb1⟩
  have RA1 := nrow_below HRA.out hb1
  have HB1 : Hid (Below w.heap.size w w1) := HB.out.trans (hb1.mono HB.out.size)
  obtain ⟨⟨x0, x1, x2, x3, x4⟩, _⟩ := rowN5 RA1
  obtain ⟨Q, hQ⟩ : ∃ Q : Nat, Q = 1 + x.s.n + x.s.m := ⟨_, rfl⟩
  rw [← hQ]
  have G : Hid (CyO 2 B x.n c q (mk1 Q) w1) := by show CyO _ _ _ _ _ _ _; rw [hQ]; exact H.out.o.below hb1
  have HQ := Lib.hid hQ
  have hQ2 : Q ≤ 9437184 := by have h1 := HS.out.1.1; have h2 := HS.out.1.2; omega
  have hz : ¬ (Q : Int) < 0 := by omega
  clear hQ hb1 RA1
  go_wp2_with fail
  refine (heldCy_any _ G.out HS.out.2 (by omega)).mono ?_
  rintro e w2 ⟨rfl, e2⟩
  subst w2
  obtain ⟨R, hR⟩ : ∃ R : Nat, R = Q + x.n := ⟨_, rfl⟩
  rw [← hR]
  have HR := Lib.hid hR
  have hz2 : ¬ (R : Int) < 0 := by omega
  clear hR x0 x1 x2 x3 x4
  go_wp2_with fail
  go_ret
  exact ⟨by rw [HR.out, HQ.out]; rfl, HB1.out⟩
end Go.Proofs.YtogfjomfhenhfaaGreatDoor
namespace Go.Proofs.YtogfjomfhenhfaaGreatDoor
open Go.RowKit Go.Deep

/-- A list that an answer is: its own memory, or none. -/
def LsOwn (T : TypeId) (s B N : Nat) (a : Option Addr) (c : Nat) (f : Nat → Int) (W : World) : Prop := (a = none ∧ N = 0 ∧ c = 0) ∨ ∃ g, a = some ⟨g, 0, none⟩ ∧ B ≤ g ∧ IsBlk T g (N * s) f W
theorem LsOwn.same {T : TypeId} {s B N c : Nat} {a : Option Addr} {f : Nat → Int} {W W' : World} (h : LsOwn T s B N a c f W) (hb : ∀ k, B ≤ k → k < W.heap.size → W'.heap[k]? = W.heap[k]?) : LsOwn T s B N a c f W' := by
  rcases h with h | ⟨g, e, h1, h2⟩
  · exact Or.inl h
  · exact Or.inr ⟨g, e, h1, h2.block (hb g h1 h2.lt)⟩
theorem LsOwn.below {T : TypeId} {s B N c : Nat} {a : Option Addr} {f : Nat → Int} {W W' : World} (h : LsOwn T s B N a c f W) (hb : Below W.heap.size W W') : LsOwn T s B N a c f W' := h.same (fun k _ hk => hb.block k hk)
theorem LsOwn.at_ {T : TypeId} {s B N c : Nat} {a : Option Addr} {f : Nat → Int} {W : World} (h : LsOwn T s B N a c f W) : IsAt a (N * s) f W := by
  rcases h with h | ⟨g, e, h1, h2⟩
  · exact Or.inl (by rw [h.2.1]; simp)
  · rw [e]; exact h2.at_
theorem LsOwn.low {T : TypeId} {s B B' N c : Nat} {a : Option Addr} {f : Nat → Int} {W : World} (h : LsOwn T s B N a c f W) (hb : B' ≤ B) : LsOwn T s B' N a c f W := by
  rcases h with h | ⟨g, e, h1, h2⟩
  · exact Or.inl h
  · exact Or.inr ⟨g, e, Nat.le_trans hb h1, h2⟩
theorem LsOwn.lt {T : TypeId} {s B N c : Nat} {a : Option Addr} {f : Nat → Int} {W : World} (h : LsOwn T s B N a c f W) {k : Nat} (e : a = some ⟨k, 0, none⟩) : B ≤ k ∧ k < W.heap.size := by
  rcases h with h | ⟨g, e', h1, h2⟩
  · rw [h.1] at e; cases e
  · rw [e'] at e; cases e; exact ⟨h1, h2.lt⟩
end Go.Proofs.YtogfjomfhenhfaaGreatDoor
namespace Go.Proofs.YtogfjomfhenhfaaGreatDoor
open Go.RowKit Go.Deep

namespace Rn
/-- Right assets: two numbers each. -/
def Right (n : Nat) (f : Nat → Int) : Prop := n ≤ 40 ∧ ∀ i, i < n → (1 ≤ f (i * 2) ∧ f (i * 2) ≤ 300) ∧ (0 ≤ f (i * 2 + 1) ∧ f (i * 2 + 1) ≤ 1000)
/-- A right budget. -/
def BudOk (z : Int) : Prop := 0 ≤ z ∧ z ≤ 300
def c (f : Nat → Int) (i : Nat) : Nat := (f (i * 2)).toNat
theorem Right.c {n : Nat} {f : Nat → Int} (h : Right n f) {i : Nat} (hi : i < n) : f (i * 2) = (c f i : Int) ∧ 1 ≤ Rn.c f i ∧ Rn.c f i ≤ 300 := by
  have := (h.2 i hi).1
  unfold Rn.c
  omega
/-- One cell of the table by the row behind it. -/
def step (f : Nat → Int) (i : Nat) (nx : Nat → Int) (b : Nat) : Int := if c f i ≤ b then (if nx b ≤ f (i * 2 + 1) + nx (b - c f i) then f (i * 2 + 1) + nx (b - c f i) else nx b) else nx b
/-- The table's rows, from behind. -/
def tk (f : Nat → Int) (n : Nat) : Nat → Nat → Int
  | 0 => fun _ => 0
  | k + 1 => step f (n - 1 - k) (tk f n k)
def T (f : Nat → Int) (n i : Nat) : Nat → Int := tk f n (n - i)
theorem T_end (f : Nat → Int) (n : Nat) : T f n n = fun _ => 0 := by unfold T; simp [tk]
theorem T_step (f : Nat → Int) {n i : Nat} (h : i < n) : T f n i = step f i (T f n (i + 1)) := by
  unfold T
  rw [show n - i = (n - (i + 1)) + 1 by omega]
  show step f (n - 1 - (n - (i + 1))) _ = _
  rw [show n - 1 - (n - (i + 1)) = i by omega]
theorem step_bd {f : Nat → Int} {i : Nat} {nx : Nat → Int} {M : Int} (h1 : 0 ≤ f (i * 2 + 1)) (h2 : f (i * 2 + 1) ≤ 1000) (hn : ∀ b, 0 ≤ nx b ∧ nx b ≤ M) (b : Nat) : 0 ≤ step f i nx b ∧ step f i nx b ≤ M + 1000 := by
  unfold step
  have a1 := hn b
  have a2 := hn (b - c f i)
  split
  · split <;> omega
  · omega
theorem tk_bd {f : Nat → Int} {n : Nat} (h : Right n f) : ∀ k, k ≤ n → ∀ b, 0 ≤ tk f n k b ∧ tk f n k b ≤ (k : Int) * 1000 := by
  intro k
  induction k with
  | zero => intro _ b; simp [tk]
  | succ k ih =>
    intro hk b
    have hr := (h.2 (n - 1 - k) (by omega)).2
    have := step_bd hr.1 hr.2 (ih (by omega)) b
    simp only [tk]
    have e : ((k + 1 : Nat) : Int) * 1000 = (k : Int) * 1000 + 1000 := by omega
    omega
theorem T_bd {f : Nat → Int} {n : Nat} (h : Right n f) (i b : Nat) : 0 ≤ T f n i b ∧ T f n i b ≤ 40000 := by
  have := tk_bd h (n - i) (by omega) b
  have h1 := h.1
  unfold T
  omega
/-- An asset is renewed with so much left. -/
def tak (f : Nat → Int) (n i b : Nat) : Bool := decide (c f i ≤ b) && decide (T f n (i + 1) b ≤ f (i * 2 + 1) + T f n (i + 1) (b - c f i))
theorem tak_iff {f : Nat → Int} {n i b : Nat} : tak f n i b = true ↔ c f i ≤ b ∧ T f n (i + 1) b ≤ f (i * 2 + 1) + T f n (i + 1) (b - c f i) := by unfold tak; simp
theorem T_tak {f : Nat → Int} {n i b : Nat} (h : i < n) : tak f n i b = true ↔ c f i ≤ b ∧ f (i * 2 + 1) + T f n (i + 1) (b - c f i) = T f n i b := by
  rw [tak_iff, T_step f h]
  unfold step
  constructor
  · intro ⟨h1, h2⟩
    rw [if_pos h1, if_pos h2]
    exact ⟨h1, rfl⟩
  · intro ⟨h1, h2⟩
    rw [if_pos h1] at h2
    refine ⟨h1, ?_⟩
    by_cases q : T f n (i + 1) b ≤ f (i * 2 + 1) + T f n (i + 1) (b - c f i)
    · exact q
    · rw [if_neg q] at h2; omega
/-- The picks among the first ones, and what is left. -/
def pl (f : Nat → Int) (n b : Nat) : Nat → List Nat × Nat
  | 0 => ([], b)
  | i + 1 => if tak f n i (pl f n b i).2 = true then ((pl f n b i).1 ++ [i], (pl f n b i).2 - c f i) else pl f n b i
theorem pl_yes {f : Nat → Int} {n b i : Nat} (h : tak f n i (pl f n b i).2 = true) : pl f n b (i + 1) = ((pl f n b i).1 ++ [i], (pl f n b i).2 - c f i) := by simp only [pl]; rw [if_pos h]
theorem pl_no {f : Nat → Int} {n b i : Nat} (h : tak f n i (pl f n b i).2 = false) : pl f n b (i + 1) = pl f n b i := by simp only [pl]; rw [if_neg (by rw [h]; simp)]
theorem pl_len (f : Nat → Int) (n b i : Nat) : (pl f n b i).1.length ≤ i := by
  induction i with
  | zero => simp [pl]
  | succ i ih =>
    simp only [pl]
    split
    · simp; omega
    · omega
theorem pl_left (f : Nat → Int) (n b i : Nat) : (pl f n b i).2 ≤ b := by
  induction i with
  | zero => simp [pl]
  | succ i ih =>
    simp only [pl]
    split
    · simp; omega
    · omega
/-- The picks. -/
def picks (f : Nat → Int) (n b : Nat) : List Nat := (pl f n b n).1
/-- A list as numbers. -/
def nf (l : List Nat) (j : Nat) : Int := ((l.getD j 0 : Nat) : Int)
/-- Sums of so many picks' numbers. -/
def sm (f : Nat → Int) (k : Nat) (p : Nat → Int) : Nat → Int
  | 0 => 0
  | i + 1 => sm f k p i + f ((p i).toNat * 2 + k)
theorem sm_congr {f : Nat → Int} {k : Nat} {p q : Nat → Int} {m : Nat} (h : ∀ i, i < m → p i = q i) : sm f k p m = sm f k q m := by
  induction m with
  | zero => rfl
  | succ m ih => simp only [sm]; rw [ih (fun i hi => h i (by omega)), h m (by omega)]
theorem sm_bd {f : Nat → Int} {k : Nat} {p : Nat → Int} {n m : Nat} {M : Int} (hf : ∀ i, i < n → 0 ≤ f (i * 2 + k) ∧ f (i * 2 + k) ≤ M) (hp : ∀ i, i < m → (p i).toNat < n) : 0 ≤ sm f k p m ∧ sm f k p m ≤ (m : Int) * M := by
  induction m with
  | zero => simp [sm]
  | succ m ih =>
    have h1 := ih (fun i hi => hp i (by omega))
    have h2 := hf _ (hp m (by omega))
    simp only [sm]
    have e : ((m + 1 : Nat) : Int) * M = (m : Int) * M + M := by rw [Int.natCast_add, Int.add_mul]; simp
    omega
/-- Rising picks. -/
theorem nf_old {l : List Nat} {x j : Nat} (h : j < l.length) : nf (l ++ [x]) j = nf l j := by
  unfold nf
  simp [List.getD_eq_getElem?_getD, List.getElem?_append_left h]
theorem nf_new {l : List Nat} {x : Nat} : nf (l ++ [x]) l.length = (x : Int) := by
  unfold nf
  simp
/-- What holds of the picks so far: they rise, are below, and cost what is gone. -/
theorem pl_inv {f : Nat → Int} {n b : Nat} (h : Right n f) : ∀ i, i ≤ n → Pl.Rising (pl f n b i).1.length (nf (pl f n b i).1) i ∧ sm f 0 (nf (pl f n b i).1) (pl f n b i).1.length = ((b - (pl f n b i).2 : Nat) : Int) ∧ sm f 1 (nf (pl f n b i).1) (pl f n b i).1.length + T f n i (pl f n b i).2 = T f n 0 b := by
  intro i
  induction i with
  | zero => intro _; refine ⟨fun j hj => ?_, ?_, ?_⟩ <;> simp [pl, sm] at *
  | succ i ih =>
    intro hi
    obtain ⟨h1, h2, h3⟩ := ih (by omega)
    have hl := pl_left f n b i
    cases ht : tak f n i (pl f n b i).2 with
    | false =>
      rw [pl_no ht]
      refine ⟨fun j hj => ⟨⟨(h1 j hj).1.1, by have := (h1 j hj).1.2; omega⟩, (h1 j hj).2⟩, h2, ?_⟩
      rw [← h3]
      have hne : ¬ (c f i ≤ (pl f n b i).2 ∧ T f n (i + 1) (pl f n b i).2 ≤ f (i * 2 + 1) + T f n (i + 1) ((pl f n b i).2 - c f i)) := fun q => by rw [tak_iff.2 q] at ht; cases ht
      rw [T_step f (show i < n by omega)]
      unfold step
      by_cases q : c f i ≤ (pl f n b i).2
      · rw [if_pos q, if_neg (fun r => hne ⟨q, r⟩)]
      · rw [if_neg q]
    | true =>
      rw [pl_yes ht]
      obtain ⟨hc, hc2⟩ := (T_tak (show i < n by omega)).1 ht
      have hcc := h.c (show i < n by omega)
      generalize (pl f n b i).1 = l at *
      generalize (pl f n b i).2 = left at *
      have e : (l ++ [i]).length = l.length + 1 := by simp
      simp only [e]
      refine ⟨fun j hj => ?_, ?_, ?_⟩
      · by_cases q : j < l.length
        · rw [nf_old q]
          refine ⟨⟨(h1 j q).1.1, by have := (h1 j q).1.2; omega⟩, fun hj0 => ?_⟩
          rw [nf_old (by omega)]
          exact (h1 j q).2 hj0
        · obtain rfl : j = l.length := by omega
          rw [nf_new]
          refine ⟨⟨by omega, by omega⟩, fun hj0 => ?_⟩
          rw [nf_old (by omega)]
          have := (h1 (l.length - 1) (by omega)).1.2
          omega
      · simp only [sm]
        rw [sm_congr (q := nf l) (fun j hj => nf_old hj), h2, nf_new]
        simp only [Int.toNat_natCast, Nat.add_zero]
        omega
      · simp only [sm]
        rw [sm_congr (q := nf l) (fun j hj => nf_old hj), nf_new]
        simp only [Int.toNat_natCast]
        rw [← h3, ← hc2]
        omega
theorem picks_rise {f : Nat → Int} {n b : Nat} (h : Right n f) : Pl.Rising (picks f n b).length (nf (picks f n b)) n := (pl_inv h n (Nat.le_refl _)).1
theorem picks_cost {f : Nat → Int} {n b : Nat} (h : Right n f) : sm f 0 (nf (picks f n b)) (picks f n b).length ≤ (b : Int) := by
  have := (pl_inv h (b := b) n (Nat.le_refl _)).2.1
  have h2 := pl_left f n b n
  unfold picks
  omega
theorem picks_worth {f : Nat → Int} {n b : Nat} (h : Right n f) : sm f 1 (nf (picks f n b)) (picks f n b).length = T f n 0 b := by
  have := (pl_inv h (b := b) n (Nat.le_refl _)).2.2
  rw [T_end] at this
  unfold picks
  simpa using this
theorem picks_len (f : Nat → Int) (n b : Nat) : (picks f n b).length ≤ n := pl_len f n b n
/-- The table is no less for more, and any picks from a place on are worth no more than it says. -/
theorem sm_split (f : Nat → Int) (k : Nat) (p : Nat → Int) (m : Nat) : sm f k p (m + 1) = f ((p 0).toNat * 2 + k) + sm f k (fun j => p (j + 1)) m := by
  induction m with
  | zero => simp [sm]
  | succ m ih => rw [show sm f k p (m + 1 + 1) = sm f k p (m + 1) + f ((p (m + 1)).toNat * 2 + k) from rfl, ih]; simp only [sm]; omega
theorem T_most {f : Nat → Int} {n : Nat} (h : Right n f) : ∀ k, k ≤ n → ∀ (m : Nat) (p : Nat → Int) (b : Nat), Pl.Rising m p n → (∀ j, j < m → ((n - k : Nat) : Int) ≤ p j) → sm f 0 p m ≤ (b : Int) → sm f 1 p m ≤ T f n (n - k) b := by
  intro k
  induction k with
  | zero =>
    intro _ m p b h1 h2 _
    have : m = 0 := by
      cases m with
      | zero => rfl
      | succ m =>
        have := h2 0 (by omega)
        have h3 := (h1 0 (by omega)).1.2
        omega
    subst this
    rw [show n - 0 = n by omega, T_end]
    simp [sm]
  | succ k ih =>
    intro hk m p b h1 h2 h3
    have hn : n - (k + 1) < n := by omega
    have e1 : n - (k + 1) + 1 = n - k := by omega
    have hup : ∀ j, j < m → ((n - (k + 1) : Nat) : Int) < p j ∨ j = 0 := by
      intro j hj
      by_cases q : j = 0
      · exact Or.inr q
      · have a1 := (h1 j hj).2 (by omega)
        have a2 := h2 (j - 1) (by omega)
        exact Or.inl (by omega)
    have hT : T f n (n - k) b ≤ T f n (n - (k + 1)) b := by
      rw [T_step f hn, e1]
      unfold step
      split
      · split <;> omega
      · omega
    have plain : (∀ j, j < m → ((n - k : Nat) : Int) ≤ p j) → sm f 1 p m ≤ T f n (n - (k + 1)) b := fun q => Int.le_trans (ih (by omega) m p b h1 q h3) hT
    cases m with
    | zero => exact plain (fun j hj => absurd hj (Nat.not_lt_zero _))
    | succ m =>
      by_cases q : p 0 = ((n - (k + 1) : Nat) : Int)
      · have hr : Pl.Rising m (fun j => p (j + 1)) n := fun j hj => by
          have a := h1 (j + 1) (by omega)
          refine ⟨a.1, fun hj0 => ?_⟩
          have := a.2 (by omega)
          show p (j - 1 + 1) < p (j + 1)
          rw [show j - 1 + 1 = j by omega]
          simpa using this
        have hcc := h.c hn
        rw [sm_split] at h3 ⊢
        rw [q] at h3 ⊢
        simp only [Int.toNat_natCast, Nat.add_zero] at h3 ⊢
        rw [hcc.1] at h3
        have nn : 0 ≤ sm f 0 (fun j => p (j + 1)) m := (sm_bd (M := 300) (n := n) (fun i hi => by have := (h.2 i hi).1; simp only [Nat.add_zero]; omega) (fun i hi => by have h9 : p (i + 1) < n := (hr i hi).1.2; have h8 : 0 ≤ p (i + 1) := (hr i hi).1.1; show (p (i + 1)).toNat < n; omega)).1
        have hcb : c f (n - (k + 1)) ≤ b := by omega
        have := ih (by omega) m (fun j => p (j + 1)) (b - c f (n - (k + 1))) hr (fun j hj => by
          rcases hup (j + 1) (by omega) with u | u
          · show _ ≤ p (j + 1); omega
          · omega) (by omega)
        rw [T_step f hn, e1]
        unfold step
        rw [if_pos hcb]
        split <;> omega
      · refine plain (fun j hj => ?_)
        have a0 := h2 0 (by omega)
        rcases hup j hj with u | u
        · omega
        · subst u; omega
theorem best {f : Nat → Int} {n m b : Nat} {p : Nat → Int} (h : Right n f) (hr : Pl.Rising m p n) (hc : sm f 0 p m ≤ (b : Int)) : sm f 1 p m ≤ T f n 0 b := by
  have := T_most h n (Nat.le_refl _) m p b hr (fun j hj => by have := (hr j hj).1.1; omega) hc
  rwa [show n - n = 0 by omega] at this
end Rn
end Go.Proofs.YtogfjomfhenhfaaGreatDoor
namespace Go.Proofs.YtogfjomfhenhfaaGreatDoor
open Go.RowKit Go.Deep

theorem rwrap {x : Int} (h1 : -9223372036854775808 ≤ x) (h2 : x ≤ 9223372036854775807) : IntKind.i64.wrap x = x := by simp [IntKind.wrap, IntKind.bits, IntKind.signed]; omega
theorem rhs (w : World) (g k : Nat) (h : g ≠ k) (i : Nat) (v : Value) : (w.setCell ⟨k, i, none⟩ v).heap[g]? = w.heap[g]? := Below.heap_setCell _ _ _ _ (by show g ≠ k; exact h)
/-- The value of what is told. -/
abbrev roV (cs wo cd : Int) (n : Nat) (a : Option Addr) (k : Nat) : Value := .agg #[.slice a n k, .int .i64 cs, .int .i64 wo, .int .i64 cd]
abbrev roL (cs wo cd : Int) (n : Nat) (a : Option Addr) (k : Nat) : List Value := [.slice a n k, .int .i64 cs, .int .i64 wo, .int .i64 cd]
end Go.Proofs.YtogfjomfhenhfaaGreatDoor
namespace Go.Proofs.YtogfjomfhenhfaaGreatDoor
open Go.RowKit Go.Deep

theorem rmarkLs {B N c : Nat} {a : Option Addr} {f : Nat → Int} (w : World) (h : LsOwn 2 1 B N a c f w) (hn : N ≤ 1048576) :
    Calls Tryz.prog 33 #[.slice a N c, .int .i64 1] w fun e w' => e = .returned (.int .i64 ((1 + N : Nat) : Int)) ∧ LsOwn 2 1 B N a c (mk1 1) w' ∧ (∀ k, k < w.heap.size → a ≠ some ⟨k, 0, none⟩ → w'.heap[k]? = w.heap[k]?) ∧ w'.os = w.os ∧ w'.tape = w.tape ∧ w'.output = w.output ∧ w.heap.size ≤ w'.heap.size := by
  rcases h with ⟨rfl, rfl, rfl⟩ | ⟨g, rfl, h1, h2⟩
  · refine (nmarkInt64S_nil 1 w).mono ?_
    rintro e w' ⟨rfl, rfl⟩
    exact ⟨rfl, Or.inl ⟨rfl, rfl, rfl⟩, fun _ _ _ => rfl, rfl, rfl, rfl, Nat.le_refl _⟩
  · refine (nmarkInt64S_any g N c 1 f w (by simpa using h2) hn (by omega)).mono ?_
    rintro e w' ⟨rfl, hm, ho⟩
    exact ⟨rfl, Or.inr ⟨g, rfl, h1, (by simpa using hm)⟩, fun k hk hne => ho.block k hk (fun e => hne (by rw [e])), ho.os, ho.tape, ho.output, ho.size⟩
theorem rheldLs {B N c : Nat} {a : Option Addr} (w : World) (h : LsOwn 2 1 B N a c (mk1 1) w) (hn : N ≤ 1048576) :
    Calls Tryz.prog 59 #[.slice a N c, .int .i64 1] w fun e w' => e = .returned (.int .i64 ((1 + N : Nat) : Int)) ∧ w' = w := by
  rcases h with ⟨rfl, rfl, rfl⟩ | ⟨g, rfl, h1, h2⟩
  · exact nheldInt64S_nil 1 w
  · exact nheldInt64S_any g N c 1 w (by simpa using h2) hn (by omega)
end Go.Proofs.YtogfjomfhenhfaaGreatDoor
namespace Go.Proofs.YtogfjomfhenhfaaGreatDoor
open Go.RowKit Go.Deep

/-- Blocks of a range alone may have changed. -/
structure OnlyR (lo hi : Nat) (w w' : World) : Prop where
  os : w'.os = w.os
  tape : w'.tape = w.tape
  output : w'.output = w.output
  size : w.heap.size ≤ w'.heap.size
  block : ∀ k, k < w.heap.size → ¬ (lo ≤ k ∧ k < hi) → w'.heap[k]? = w.heap[k]?
theorem OnlyR.refl (lo hi : Nat) (w : World) : OnlyR lo hi w w := ⟨rfl, rfl, rfl, Nat.le_refl _, fun _ _ _ => rfl⟩
theorem OnlyR.only {lo hi g : Nat} {w w' w2 : World} (h : OnlyR lo hi w w') (h2 : Only g w' w2) (hg : lo ≤ g ∧ g < hi) : OnlyR lo hi w w2 :=
  ⟨h2.os.trans h.os, h2.tape.trans h.tape, h2.output.trans h.output, Nat.le_trans h.size h2.size, fun k hk hn => (h2.block k (Nat.lt_of_lt_of_le hk h.size) (fun e => hn (by omega))).trans (h.block k hk hn)⟩
theorem OnlyR.below {B lo hi : Nat} {w w' : World} (h : OnlyR lo hi w w') (h1 : B ≤ lo) (h2 : B ≤ w.heap.size) : Below B w w' := ⟨h.os, h.tape, h.output, h.size, fun k hk => h.block k (by omega) (by omega)⟩
theorem isBlk_type {T : TypeId} {g N : Nat} {f : Nat → Int} {W : World} (h : IsBlk T g N f W) : ∃ cur, W.heap[g]? = some (.cells cur T (0, 0)) := by
  obtain ⟨m, F, _, ⟨cur, h1, _⟩, _⟩ := h
  exact ⟨cur, h1⟩
theorem typ_ne {g k : Nat} {t t' : TypeId} {W : World} (h1 : ∃ cur, W.heap[g]? = some (.cells cur t (0, 0))) (h2 : ∃ cur, W.heap[k]? = some (.cells cur t' (0, 0))) (hne : t ≠ t') : g ≠ k := by
  rintro rfl
  obtain ⟨c1, h1⟩ := h1
  obtain ⟨c2, h2⟩ := h2
  rw [h1] at h2
  injection h2 with h2
  injection h2 with _ h2
  exact hne h2
/-- One row of its own. -/
def RwO (B hi N : Nat) (a : Option Addr) (c : Nat) (f : Nat → Int) (W : World) : Prop := (a = none ∧ N = 0 ∧ c = 0) ∨ ∃ b, a = some ⟨b, 0, none⟩ ∧ (B ≤ b ∧ b < hi) ∧ IsBlk 2 b N f W
theorem RwO.same {B hi N c : Nat} {a : Option Addr} {f : Nat → Int} {W W' : World} (h : RwO B hi N a c f W) (hb : ∀ q, B ≤ q → q < hi → q < W.heap.size → W'.heap[q]? = W.heap[q]?) : RwO B hi N a c f W' := by
  rcases h with h | ⟨b, e, h1, h2⟩
  · exact Or.inl h
  · exact Or.inr ⟨b, e, h1, h2.block (hb b h1.1 h1.2 h2.lt)⟩
theorem RwO.at_ {B hi N c : Nat} {a : Option Addr} {f : Nat → Int} {W : World} (h : RwO B hi N a c f W) : IsAt a N f W := by
  rcases h with h | ⟨b, e, h1, h2⟩
  · exact Or.inl h.2.1
  · rw [e]; exact h2.at_
/-- A list of lists of its own. -/
def SsO (B hi n : Nat) (a : Option Addr) (k : Nat) (LN : Nat → Nat) (L : Nat → Nat → Int) (W : World) : Prop :=
  (a = none ∧ n = 0 ∧ k = 0) ∨ ∃ (g : Nat) (aj : Nat → Option Addr) (cj : Nat → Nat), a = some ⟨g, 0, none⟩ ∧ (B ≤ g ∧ g < hi) ∧ (∃ M F, n ≤ M ∧ W.rowIs g 24 M F ∧ ∀ j, j < n → F j = .slice (aj j) (LN j) (cj j)) ∧ (∀ j, j < n → RwO B hi (LN j) (aj j) (cj j) (L j) W) ∧ ∀ i j b, i < n → j < n → aj i = some b → aj j = some b → i = j
theorem SsO.same {B hi n k : Nat} {a : Option Addr} {LN : Nat → Nat} {L : Nat → Nat → Int} {W W' : World} (h : SsO B hi n a k LN L W) (hb : ∀ q, B ≤ q → q < hi → q < W.heap.size → W'.heap[q]? = W.heap[q]?) : SsO B hi n a k LN L W' := by
  rcases h with h | ⟨g, aj, cj, e, h1, ⟨M, F, f1, f2, f3⟩, h3, h4⟩
  · exact Or.inl h
  · exact Or.inr ⟨g, aj, cj, e, h1, ⟨M, F, f1, f2.of_block (hb g h1.1 h1.2 f2.lt), f3⟩, fun j hj => (h3 j hj).same hb, h4⟩
theorem SsO.below {B hi n k : Nat} {a : Option Addr} {LN : Nat → Nat} {L : Nat → Nat → Int} {W W' : World} (h : SsO B hi n a k LN L W) (hb : Below W.heap.size W W') : SsO B hi n a k LN L W' := h.same (fun q _ _ hl => hb.block q hl)
theorem SsO.at_ {B hi n k : Nat} {a : Option Addr} {LN : Nat → Nat} {L : Nat → Nat → Int} {W : World} (h : SsO B hi n a k LN L W) : LsAt a n LN L W := by
  rcases h with h | ⟨g, aj, cj, e, h1, ⟨M, F, f1, f2, f3⟩, h3, h4⟩
  · exact Or.inl h.2.1
  · exact Or.inr ⟨g, e, fun i hi => ⟨_, _, (f2.cell (by omega)).trans (by rw [f3 i hi]), (h3 i hi).at_⟩⟩
/-- Marks of such a list. -/
def mkS (LN : Nat → Nat) (j c : Nat) : Int := ((1 + Mn.tot LN j + c : Nat) : Int)
end Go.Proofs.YtogfjomfhenhfaaGreatDoor
namespace Go.Proofs.YtogfjomfhenhfaaGreatDoor
open Go.RowKit Go.Deep

namespace Cy
/-- What is kept ahead of each cycle of a run. -/
noncomputable def st (p : Pg.Prog) (LN : Nat → Nat) (L : Nat → Nat → Int) : Nat → Lg
  | 0 => start p
  | i + 1 => (ans p (st p LN L i) (LN i) (L i)).s
/-- No cycle of the run is refused. -/
def Runs (p : Pg.Prog) (LN : Nat → Nat) (L : Nat → Nat → Int) (n : Nat) : Prop := ∀ i, i < n → code p (st p LN L i) (LN i) (L i) = 0
/-- How many rows are told. -/
noncomputable def rn (p : Pg.Prog) (LN : Nat → Nat) (L : Nat → Nat → Int) (n : Nat) : Nat := if 100 < n then 0 else @ite Nat (Runs p LN L n) (Classical.propDecidable _) n 0
/-- A row. -/
noncomputable def ro (p : Pg.Prog) (LN : Nat → Nat) (L : Nat → Nat → Int) (j : Nat) : Nat → Int := (ans p (st p LN L j) (LN j) (L j)).O
section
variable {p : Pg.Prog} {LN : Nat → Nat} {L : Nat → Nat → Int} {n : Nat}
theorem rn_big (h : 100 < n) : rn p LN L n = 0 := by unfold rn; rw [if_pos h]
theorem rn_ok (h : ¬ 100 < n) (k : Runs p LN L n) : rn p LN L n = n := by unfold rn; rw [if_neg h, if_pos k]
theorem rn_no (h : ¬ Runs p LN L n) : rn p LN L n = 0 := by
  by_cases k : 100 < n
  · exact rn_big k
  · unfold rn; rw [if_neg k, if_neg h]
theorem rn_le : rn p LN L n ≤ 100 := by
  by_cases k : 100 < n
  · rw [rn_big k]; omega
  · by_cases h : Runs p LN L n
    · rw [rn_ok k h]; omega
    · rw [rn_no h]; omega
theorem runs0 : Runs p LN L 0 := fun _ h => absurd h (by omega)
theorem Runs.more {i : Nat} (h : Runs p LN L i) (k : code p (st p LN L i) (LN i) (L i) = 0) : Runs p LN L (i + 1) := fun j hj => by
  by_cases e : j = i
  · rw [e]; exact k
  · exact h j (by omega)
theorem runs_stop {i : Nat} (hi : i < n) (k : code p (st p LN L i) (LN i) (L i) ≠ 0) : rn p LN L n = 0 := rn_no fun h => k (h i hi)
theorem ans_n {s : Lg} {m : Nat} {I : Nat → Int} (h : code p s m I = 0) : (ans p s m I).n = p.on := by unfold ans; rw [if_pos h]
theorem ans_cd (s : Lg) (m : Nat) (I : Nat → Int) : (ans p s m I).cd = code p s m I := by
  by_cases h : code p s m I = 0
  · unfold ans; rw [if_pos h]; exact h.symm
  · unfold ans; rw [if_neg h]; rfl
theorem rn_wrong (h : ¬ Pg.Right p) : rn p LN L n = 0 := by
  by_cases k : n = 0
  · have := rn_le (p := p) (LN := LN) (L := L) (n := n)
    subst k
    by_cases q : Runs p LN L 0
    · rw [rn_ok (by omega) q]
    · rw [rn_no q]
  · refine runs_stop (i := 0) (by omega) fun hc => h ?_
    by_cases b : 400 < LN 0
    · rw [code_big b] at hc; exact absurd hc (by decide)
    · by_cases f : Fit p (st p LN L 0) (LN 0) (L 0)
      · exact f.1.r
      · rw [code_bad b f] at hc; exact absurd hc (by decide)
end
end Cy
theorem run_small {p : Pg.Prog} {LN : Nat → Nat} {L : Nat → Nat → Int} (h : PgSmall p) (i : Nat) : LgSmall (Cy.st p LN L i) := by
  cases i with
  | zero => exact start_small p
  | succ i =>
    show LgSmall (Cy.ans p _ _ _).s
    by_cases hc : Cy.code p (Cy.st p LN L i) (LN i) (L i) = 0
    · rw [show Cy.ans p (Cy.st p LN L i) (LN i) (L i) = ⟨Cy.next p (Cy.st p LN L i) (L i), p.on, Cy.out p (Cy.st p LN L i) (L i), 0⟩ from if_pos hc]
      exact ⟨h.1.1, h.1.1⟩
    · rw [show Cy.ans p (Cy.st p LN L i) (LN i) (L i) = Cy.no (Cy.code p (Cy.st p LN L i) (LN i) (L i)) from if_neg hc]
      exact ⟨Nat.zero_le _, Nat.zero_le _⟩
theorem run_tot {p : Pg.Prog} {LN : Nat → Nat} {L : Nat → Nat → Int} {n : Nat} (h : p.on ≤ 10485) : Mn.tot (fun _ => p.on) (Cy.rn p LN L n) ≤ 1048576 := by
  have t : ∀ i, Mn.tot (fun _ => p.on) i ≤ i * 10485 := by
    intro i
    induction i with
    | zero => exact Nat.le_refl _
    | succ i ih => show Mn.tot (fun _ => p.on) i + p.on ≤ _; omega
  have a := t (Cy.rn p LN L n)
  have b := Cy.rn_le (p := p) (LN := LN) (L := L) (n := n)
  omega
/-- What is told of a run. -/
def RowsEnd (B m N : Nat) (L : Nat → Nat → Int) (e : Ending) (W : World) : Prop := ∃ a k, e = .returned (.slice a m k) ∧ SsO B W.heap.size m a k (fun _ => N) L W
theorem RowsEnd.nil {B N : Nat} {L : Nat → Nat → Int} {W : World} : RowsEnd B 0 N L (.returned (.slice none 0 0)) W := ⟨none, 0, rfl, Or.inl ⟨rfl, rfl, rfl⟩⟩
theorem RowsEnd.empty {B N c : Nat} {L : Nat → Nat → Int} {W : World} {g M : Nat} {F : Nat → Value} (hB : B ≤ g) (h : W.rowIs g 24 M F) : RowsEnd B 0 N L (.returned (.slice (some ⟨g, 0, none⟩) 0 c)) W :=
  ⟨_, _, rfl, Or.inr ⟨g, fun _ => none, fun _ => 0, rfl, ⟨hB, h.lt⟩, ⟨M, F, Nat.zero_le _, h, fun j hj => absurd hj (by omega)⟩, fun j hj => absurd hj (by omega), fun i j b hi => absurd hi (by omega)⟩⟩
/-- Rows of their own, that lie apart. -/
structure RowsO (B N i : Nat) (aj : Nat → Option Addr) (cj : Nat → Nat) (L : Nat → Nat → Int) (W : World) : Prop where
  o : ∀ j, j < i → CyO 2 B N (aj j) (cj j) (L j) W
  ne : ∀ i' j b, i' < i → j < i → aj i' = some b → aj j = some b → i' = j
section
variable {B N i : Nat} {aj : Nat → Option Addr} {cj : Nat → Nat} {L : Nat → Nat → Int} {W W' : World}
theorem RowsO.below (h : RowsO B N i aj cj L W) (hb : Below W.heap.size W W') : RowsO B N i aj cj L W' := ⟨fun j hj => (h.o j hj).below hb, h.ne⟩
theorem RowsO.none : RowsO B N 0 aj cj L W := ⟨fun j hj => absurd hj (by omega), fun i' j b hi => absurd hi (by omega)⟩
/-- One more, made behind the others. -/
theorem RowsO.more {D : Nat} {a : Option Addr} {c : Nat} {V : World} (h : RowsO B N i aj cj L V) (hV : V.heap.size ≤ D) (hb : Below V.heap.size V W) (hB : B ≤ D) (k : CyO 2 D N a c (L i) W) : RowsO B N (i + 1) (fun j => if j = i then a else aj j) (fun j => if j = i then c else cj j) L W := by
  have h2 := h.below hb
  refine ⟨fun j hj => ?_, fun i' j b h1 h3 e1 e2 => ?_⟩
  · by_cases e : j = i
    · subst e; simp only [if_true]; exact k.low hB
    · simp only [if_neg e]; exact h2.o j (by omega)
  · have far : ∀ q, q < i → aj q = some b → a = some b → False := fun q hq x1 x2 => by
      rcases h.o q hq with ⟨y, _⟩ | ⟨g, y, _, y2⟩
      · rw [y] at x1; cases x1
      · rw [y] at x1
        cases x1
        have l1 := y2.lt
        have l2 := (k.lt x2).1
        omega
    by_cases d1 : i' = i
    · by_cases d2 : j = i
      · omega
      · rw [if_pos d1] at e1
        rw [if_neg d2] at e2
        exact (far j (by omega) e2 e1).elim
    · by_cases d2 : j = i
      · rw [if_neg d1] at e1
        rw [if_pos d2] at e2
        exact (far i' (by omega) e1 e2).elim
      · rw [if_neg d1] at e1
        rw [if_neg d2] at e2
        exact h.ne i' j b (by omega) (by omega) e1 e2
theorem RowsO.keep (h : RowsO B N i aj cj L W) (hb : ∀ k, B ≤ k → k < W.heap.size → (∀ j, j < i → aj j = some ⟨k, 0, Option.none⟩ → W'.heap[k]? = W.heap[k]?)) : RowsO B N i aj cj L W' := ⟨fun j hj => (h.o j hj).keep (fun k e h1 h2 => hb k h1 h2 j hj e), h.ne⟩
/-- The rows and the list that tells them: an answer. -/
theorem RowsO.ss {g c M : Nat} {F : Nat → Value} (h : RowsO B N i aj cj L W) (hB : B ≤ g) (r : W.rowIs g 24 M F) (hM : i ≤ M) (hF : ∀ j, j < i → F j = .slice (aj j) N (cj j)) : RowsEnd B i N L (.returned (.slice (some ⟨g, 0, Option.none⟩) i c)) W := by
  refine ⟨_, _, rfl, Or.inr ⟨g, aj, cj, rfl, ⟨hB, r.lt⟩, ⟨M, F, hM, r, hF⟩, fun j hj => ?_, h.ne⟩⟩
  rcases h.o j hj with x | ⟨b, e, h1, h2⟩
  · exact Or.inl x
  · exact Or.inr ⟨b, e, ⟨h1, h2.lt⟩, h2⟩
end
/-- The list of rows, as its cells. -/
def rwV (N : Nat) (aj : Nat → Option Addr) (cj : Nat → Nat) (n : Nat) : List Value := (List.range n).map fun j => .slice (aj j) N (cj j)
theorem rwV_len (N : Nat) (aj : Nat → Option Addr) (cj : Nat → Nat) (n : Nat) : (rwV N aj cj n).length = n := by simp [rwV]
theorem rwV_get (N : Nat) (aj : Nat → Option Addr) (cj : Nat → Nat) (n : Nat) {j : Nat} (hj : j < n) : (rwV N aj cj n)[j]? = some (.slice (aj j) N (cj j)) := by simp [rwV, hj]
theorem rwV_more (N : Nat) (aj : Nat → Option Addr) (cj : Nat → Nat) (n : Nat) (a : Option Addr) (c : Nat) : rwV N aj cj n ++ [.slice a N c] = rwV N (fun j => if j = n then a else aj j) (fun j => if j = n then c else cj j) (n + 1) := by
  unfold rwV
  rw [List.range_succ, List.map_append]
  congr 1
  · refine List.map_congr_left fun j hj => ?_
    have : j ≠ n := by have := List.mem_range.1 hj; omega
    simp only [if_neg this]
  · simp
/-- A list of rows that is owned. -/
theorem own_rows {B n N : Nat} {aj : Nat → Option Addr} {cj : Nat → Nat} {v : Value} {W : World} (h : W.ownsRow B 24 1 v n (rwV N aj cj n)) :
    ∃ a c, v = .slice a n c ∧ ((a = none ∧ n = 0 ∧ c = 0) ∨ ∃ g M F, a = some ⟨g, 0, none⟩ ∧ B ≤ g ∧ n ≤ M ∧ W.rowIs g 24 M F ∧ ∀ j, j < n → F j = .slice (aj j) N (cj j)) := by
  rcases h.2 with ⟨rfl, h2⟩ | ⟨g, cap, cur, rfl, e2, e3, e4, e5, e6, e7⟩
  · exact ⟨none, 0, by rw [h2], Or.inl ⟨rfl, h2, rfl⟩⟩
  · refine ⟨_, cap, rfl, Or.inr ⟨g, cap * 1, fun i => cur[i]?.getD undef, rfl, e2, by omega, ⟨cur, e3, e6, fun i hi => ?_⟩, fun j hj => ?_⟩⟩
    · show cur[i]? = some (cur[i]?.getD undef)
      rw [Array.getElem?_eq_getElem (by omega)]
      rfl
    · have h1 : (cur.toList.take (n * 1))[j]? = (rwV N aj cj n)[j]? := by rw [e7]
      rw [List.getElem?_take, if_pos (by omega), Array.getElem?_toList, rwV_get N aj cj n hj] at h1
      show cur[j]?.getD undef = _
      rw [h1]; rfl
section
theorem rwinfo : (Tryz.prog.info? 24).map (fun i => (i.zero, i.size, i.bytes)) = some (some (.slice none 0 0), 1, 24) := by kernel_rfl
theorem run_append_rw (w : World) (ty : TypeId) (B : Nat) (v : Value) (N : Nat) (aj : Nat → Option Addr) (cj : Nat → Nat) (n : Nat) (a : Option Addr) (c : Nat) (hown : w.ownsRow B 24 1 v n (rwV N aj cj n)) (ad : Addr) (k : Nat) (hm : w.cell? (ad.add 0) = some (.slice a N c))
    (h63 : n ≤ 1000000) (hB : B ≤ w.heap.size) :
    ∃ v' w', (Builtin.append_ #[28, 28] ty #[v, .slice (some ad) 1 k]).run Tryz.prog w = .ok v' w' ∧ w'.ownsRow B 24 1 v' (n + 1) (rwV N (fun j => if j = n then a else aj j) (fun j => if j = n then c else cj j) (n + 1)) ∧ w.grownBy w' v.ownBlock := by
  obtain ⟨i0, hi, hz0, hz1, hz2⟩ := info_parts rwinfo
  obtain ⟨v', w', hr, h1, h2, _⟩ := run_append_own (P := Tryz.prog) w B 28 ty 24 i0 _ 1 24 Tryz.underlying28 hi hz0 hz1 hz2 rfl (by decide) v n (rwV N aj cj n) hown ad 1 k [.slice a N c] rfl (by
    intro j u hj
    match j with
    | 0 => simp at hj; rw [hm, hj]
    | j + 1 => simp at hj) (by intro u hu; simp at hu; subst hu; rfl) (by unfold maxLen; omega) (by omega) hB
  exact ⟨v', w', hr, by rw [← rwV_more]; exact h1, h2⟩
theorem wp_append_rw {o : Oper} {a : Act} {w : World} {K : Act → World → Prop} {Q : Exit → Act → World → Prop} (s x : Operand)
    (ho : o.op = .call { callee := .builtin .append, args := #[s, x], argTypes := #[28, 28] })
    (B : Nat) (v : Value) (N : Nat) (aj : Nat → Option Addr) (cj : Nat → Nat) (n : Nat) (ra : Option Addr) (rc : Nat) (hv : a.eval s = v) (hown : w.ownsRow B 24 1 v n (rwV N aj cj n)) (ad : Addr) (k : Nat) (hx : a.eval x = .slice (some ad) 1 k) (hm : w.cell? (ad.add 0) = some (.slice ra N rc))
    (h63 : n ≤ 1000000) (hB : B ≤ w.heap.size)
    (hK : ∀ v' w', w'.ownsRow B 24 1 v' (n + 1) (rwV N (fun j => if j = n then ra else aj j) (fun j => if j = n then rc else cj j) (n + 1)) → w.grownBy w' v.ownBlock → K (a.put o.dst v') w') : o.wp Tryz.prog a w K Q := by
  obtain ⟨v', w', hr, h2, h3⟩ := run_append_rw w o.type B v N aj cj n ra rc hown ad k hm h63 hB
  unfold Oper.wp execOp
  simp only [ho, resolve, invoke, builtin, Sem.run_bind, Sem.run_pure, Result.andThen_ok, List.map_toArray, List.map_cons, List.map_nil, hv, hx, hr]
  exact hK v' w' h2 h3
theorem wpList_append_rw {ops : Array Oper} {rest : List Oper} {o : Oper} {a : Act} {w : World} {Q : Exit → Act → World → Prop} (hgd : o.guard = none) (s x : Operand)
    (ho : o.op = .call { callee := .builtin .append, args := #[s, x], argTypes := #[28, 28] })
    (B : Nat) (v : Value) (N : Nat) (aj : Nat → Option Addr) (cj : Nat → Nat) (n : Nat) (ra : Option Addr) (rc : Nat) (hv : a.eval s = v) (hown : w.ownsRow B 24 1 v n (rwV N aj cj n)) (ad : Addr) (k : Nat) (hx : a.eval x = .slice (some ad) 1 k) (hm : w.cell? (ad.add 0) = some (.slice ra N rc))
    (h63 : n ≤ 1000000) (hB : B ≤ w.heap.size)
    (hK : ∀ v' w', w'.ownsRow B 24 1 v' (n + 1) (rwV N (fun j => if j = n then ra else aj j) (fun j => if j = n then rc else cj j) (n + 1)) → w.grownBy w' v.ownBlock → wpList Tryz.prog ops Q rest (a.put o.dst v') w') : wpList Tryz.prog ops Q (o :: rest) a w :=
  wpList_plain hgd fun _ hK2 => wp_append_rw s x ho B v N aj cj n ra rc hv hown ad k hx hm h63 hB fun v' w' h2 h3 => hK2 _ _ (hK v' w' h2 h3)
end
end Go.Proofs.YtogfjomfhenhfaaGreatDoor
namespace Go.Proofs.YtogfjomfhenhfaaGreatDoor
open Go.RowKit Go.Deep

def LsC (ga : Option Addr) (n : Nat) (LN CK : Nat → Nat) (L : Nat → Nat → Int) (W : World) : Prop := ∀ i, i < n → ∃ g b, ga = some ⟨g, 0, none⟩ ∧ W.cell? ⟨g, i, none⟩ = some (.slice b (LN i) (CK i)) ∧ IsAt b (LN i) (L i) W ∧ LN i ≤ CK i ∧ (b = none → CK i = 0)
theorem LsC.below {ga : Option Addr} {n : Nat} {LN CK : Nat → Nat} {L : Nat → Nat → Int} {W W' : World} (h : LsC ga n LN CK L W) (hb : Below W.heap.size W W') : LsC ga n LN CK L W' := fun i hi => by
  obtain ⟨g, b, e, c, k, l⟩ := h i hi
  exact ⟨g, b, e, (hb.cell (World.block_lt_of_cell? _ _ c)).trans c, k.below hb, l⟩
end Go.Proofs.YtogfjomfhenhfaaGreatDoor
namespace Go.Proofs.YtogfjomfhenhfaaGreatDoor
open Go Go.RowKit Go.Deep

/-- A drawn program. -/
def pgOf (bl : List Pg.Bk) (os : List Int) (ns : List (Int × Int)) : Pg.Prog := ⟨bl.length, fun i => bl[i]?.getD ⟨0, ⟨#[]⟩, 0, 0⟩, os.length, fun j => os.getD j 0, ns.length, Ln.fl ns⟩
theorem bkVs_get (bl : List Pg.Bk) : ∀ (i : Nat) (x : Pg.Bk), bl[i]? = some x → (bkVs bl)[i * 4]? = some (.int .i64 x.kind) ∧ (bkVs bl)[i * 4 + 1]? = some (.string x.name) ∧ (bkVs bl)[i * 4 + 2]? = some (.int .i64 x.a) ∧ (bkVs bl)[i * 4 + 3]? = some (.int .i64 x.b) := by
  induction bl with
  | nil => intro i x h; simp at h
  | cons y l ih =>
    intro i x h
    have e1 : bkVs (y :: l) = bk4 y ++ bkVs l := by simp [bkVs, bk4]
    cases i with
    | zero =>
      simp at h
      subst h
      rw [e1]
      simp [bk4]
    | succ i =>
      simp at h
      have k := ih i x h
      rw [e1]
      have e : ∀ c, (bk4 y ++ bkVs l)[(i + 1) * 4 + c]? = (bkVs l)[i * 4 + c]? := fun c => by
        rw [List.getElem?_append_right (by simp [bk4]; omega)]
        congr 1
        simp [bk4]
        omega
      have e0 := e 0
      simp only [Nat.add_zero] at e0
      rw [e0, e 1, e 2, e 3]
      exact k
theorem PdO.prog {B : Nat} {va vf vw : Value} {bl : List Pg.Bk} {os : List Int} {ns : List (Int × Int)} {W : World} (h : PdO B va bl vf os vw ns W) : ∃ la lk fa fk wa wk, va = .slice la bl.length lk ∧ vf = .slice fa os.length fk ∧ vw = .slice wa ns.length wk ∧ PgAt (pgOf bl os ns) la fa wa W ∧ PgSmall (pgOf bl os ns) := by
  obtain ⟨la, lk, rfl⟩ := d_shape h.oa
  obtain ⟨fa, fk, rfl⟩ := d_shape h.of
  obtain ⟨wa, wk, e, hw, _⟩ := own_ns h.ow
  subst e
  have hl := h.len
  refine ⟨la, lk, fa, fk, wa, wk, rfl, rfl, rfl, ⟨?_, ?_, ?_⟩, ⟨⟨by show bl.length ≤ _; omega, fun i hi => ?_⟩, by show os.length ≤ _; omega, by show ns.length ≤ _; omega⟩⟩
  · by_cases h0 : bl.length = 0
    · exact Or.inl h0
    · obtain ⟨g, c, e⟩ := own_at h.oa (by omega)
      cases e
      refine Or.inr ⟨g, rfl, fun i hi => ?_⟩
      have hi2 : i < bl.length := hi
      have hx : bl[i]? = some bl[i] := List.getElem?_eq_getElem hi2
      obtain ⟨k0, k1, k2, k3⟩ := bkVs_get bl i _ hx
      have e : (pgOf bl os ns).B i = bl[i] := by show bl[i]?.getD _ = _; rw [hx]; rfl
      rw [e]
      have cc : ∀ {j v}, (bkVs bl)[j]? = some v → W.cell? ⟨g, j, none⟩ = some v := fun {j v} hj => by
        have := h.oa.cells rfl j v hj
        rw [Addr.add_lit, Nat.zero_add] at this
        exact this
      exact ⟨cc k0, cc k1, cc k2, cc k3⟩
  · by_cases h0 : os.length = 0
    · exact Or.inl h0
    · obtain ⟨g, c, e⟩ := own_at h.of (by omega)
      cases e
      exact Or.inr ⟨g, rfl, fun i hi => own_int h.of hi⟩
  · by_cases h0 : ns.length = 0
    · exact Or.inl (by show ns.length * 2 = 0; omega)
    · obtain ⟨g, c, e⟩ := own_at h.ow (by omega)
      cases e
      refine Or.inr ⟨g, rfl, fun j hj => ?_⟩
      have := h.ow.cells rfl j (.int .i64 (Ln.fl ns j)) (nvs_get ns j hj)
      rw [Addr.add_lit, Nat.zero_add] at this
      exact this
  · have hi2 : i < bl.length := hi
    have hx : bl[i]? = some bl[i] := List.getElem?_eq_getElem hi2
    have e : (pgOf bl os ns).B i = bl[i] := by show bl[i]?.getD _ = _; rw [hx]; rfl
    rw [e]
    exact Nat.le_trans (h.nm _ (List.getElem_mem hi2)) (by decide)
theorem PdO.draw {B sb : Nat} {va vf vw : Value} {bl : List Pg.Bk} {os : List Int} {ns : List (Int × Int)} {W W' : World} (h : PdO B va bl vf os vw ns W) (hs : sb < B) (hd : Drew sb W W') : PdO B va bl vf os vw ns W' := by
  have far : ∀ {S : TypeId} {s n : Nat} {v : Value} {xs : List Value}, W.ownsRow B S s v n xs → W'.ownsRow B S s v n xs := fun ho => d_far ho (fun k hk hl => hd.2.2.2.2.2 k hl (by have := (ho.lt k hk).1; omega))
  exact ⟨far h.oa, far h.of, far h.ow, h.nm, h.len⟩
theorem PdO.mut {B C : Nat} {T : TypeId} {va vf vw : Value} {bl : List Pg.Bk} {os : List Int} {ns : List (Int × Int)} {W W' : World} (h : PdO B va bl vf os vw ns W) (m : Mut C T W W') (h1 : 84 ≠ T) (h2 : 2 ≠ T) (h3 : 36 ≠ T) : PdO B va bl vf os vw ns W' := ⟨m.own h.oa h1, m.own h.of h2, m.own h.ow h3, h.nm, h.len⟩
/-- A drawn list of ins. -/
structure Rq where
  a : Option Addr
  c : Nat
  zs : List Int
def Rq.v (x : Rq) : Value := .slice x.a x.zs.length x.c
/-- What stands while the ins of a run are drawn; u is the world ahead of the program. -/
structure GdS (u : World) (sb r g : Nat) (va : Value) (bl : List Pg.Bk) (vf : Value) (os : List Int) (vw : Value) (ns : List (Int × Int)) (v : Value) (qs : List Rq) (W : World) : Prop where
  pr : PdO u.heap.size va bl vf os vw ns W
  box : W.rowIs g 27 3 (rowN [va, vf, vw])
  res : W.rowIs r 27 3 (rowN [.slice none 0 0, .slice none 0 0, .slice none 0 0])
  own : W.ownsRow u.heap.size 24 1 v qs.length (qs.map Rq.v)
  all : ∀ x, x ∈ qs → W.ownsRow u.heap.size 2 1 x.v x.zs.length (x.zs.map (Value.int .i64)) ∧ x.zs.length ≤ 1000
  src : Drew sb u W
  lo : sb < u.heap.size ∧ u.heap.size ≤ g ∧ r < sb
section
variable {u : World} {sb r g : Nat} {va vf vw v v' : Value} {bl : List Pg.Bk} {os : List Int} {ns : List (Int × Int)} {qs : List Rq} {W W' : World}
theorem GdS.draw (h : GdS u sb r g va bl vf os vw ns v qs W) (hd : Drew sb W W') : GdS u sb r g va bl vf os vw ns v qs W' := by
  have lo := h.lo
  have far : ∀ {S : TypeId} {s n : Nat} {v : Value} {xs : List Value}, W.ownsRow u.heap.size S s v n xs → W'.ownsRow u.heap.size S s v n xs := fun ho => d_far ho (fun k hk hl => hd.2.2.2.2.2 k hl (by have := (ho.lt k hk).1; omega))
  exact ⟨h.pr.draw lo.1 hd, h.box.of_block (hd.2.2.2.2.2 g h.box.lt (by omega)), h.res.of_block (hd.2.2.2.2.2 r h.res.lt (by omega)), far h.own, fun x hx => ⟨far (h.all x hx).1, (h.all x hx).2⟩, pdrew_more h.src hd, lo⟩
theorem GdS.bel (h : GdS u sb r g va bl vf os vw ns v qs W) (hb : Below W.heap.size W W') : GdS u sb r g va bl vf os vw ns v qs W' := by
  have far : ∀ {S : TypeId} {s n : Nat} {v : Value} {xs : List Value}, W.ownsRow u.heap.size S s v n xs → W'.ownsRow u.heap.size S s v n xs := fun ho => d_far ho (fun k _ hl => hb.block k hl)
  exact ⟨⟨far h.pr.oa, far h.pr.of, far h.pr.ow, h.pr.nm, h.pr.len⟩, nrow_below h.box hb, nrow_below h.res hb, far h.own, fun x hx => ⟨far (h.all x hx).1, (h.all x hx).2⟩, pdrew_bel h.src hb, h.lo⟩
theorem GdS.push {x : Rq} {o : Obj} (h : GdS u sb r g va bl vf os vw ns v qs W) (hx : W.ownsRow u.heap.size 2 1 x.v x.zs.length (x.zs.map (Value.int .i64)) ∧ x.zs.length ≤ 1000) (hg : (W.alloc o).grownBy W' v.ownBlock) (hown : W'.ownsRow u.heap.size 24 1 v' (qs.length + 1) (qs.map Rq.v ++ [x.v])) : GdS u sb r g va bl vf os vw ns v' (qs ++ [x]) W' := by
  have m := Mut.of_grown h.own hg
  refine ⟨h.pr.mut m (by decide) (by decide) (by decide), m.row h.box (by decide), m.row h.res (by decide), by simpa using hown, fun y hy => ?_, m.src h.src h.lo.1 (Nat.le_refl _), h.lo⟩
  rcases List.mem_append.1 hy with hy | hy
  · exact ⟨m.own (h.all y hy).1 (by decide), (h.all y hy).2⟩
  · obtain rfl : y = x := by simpa using hy
    exact ⟨m.own hx.1 (by decide), hx.2⟩
end
theorem gd_lists {B : Nat} {v : Value} {qs : List Rq} {W : World} (own : W.ownsRow B 24 1 v qs.length (qs.map Rq.v)) (all : ∀ x, x ∈ qs → W.ownsRow B 2 1 x.v x.zs.length (x.zs.map (Value.int .i64)) ∧ x.zs.length ≤ 1000) : ∃ ga ca, v = .slice ga qs.length ca ∧ LsC ga qs.length (fun i => (qs[i]?.getD ⟨none, 0, []⟩).zs.length) (fun i => (qs[i]?.getD ⟨none, 0, []⟩).c) (fun i j => (qs[i]?.getD ⟨none, 0, []⟩).zs.getD j 0) W ∧ ∀ i, i < qs.length → (qs[i]?.getD ⟨none, 0, []⟩).zs.length ≤ 1048576 := by
  obtain ⟨ga, ca, rfl⟩ := d_shape own
  refine ⟨ga, ca, rfl, fun i hi => ?_, fun i hi => ?_⟩
  · obtain ⟨gg, cc, e⟩ := own_at own (by omega)
    cases e
    have hx : qs[i]? = some qs[i] := List.getElem?_eq_getElem hi
    have e2 : qs[i]?.getD ⟨none, 0, []⟩ = qs[i] := by rw [hx]; rfl
    simp only [e2]
    have hq := (all _ (List.getElem_mem hi)).1
    have hc := own.cells rfl i (qs[i]).v (by rw [List.getElem?_map, hx]; rfl)
    rw [Addr.add_lit, Nat.zero_add] at hc
    refine ⟨gg, (qs[i]).a, rfl, hc, ?_, ?_, ?_⟩
    · by_cases h0 : (qs[i]).zs.length = 0
      · exact Or.inl h0
      · obtain ⟨g2, c2, e3⟩ := own_at hq (by omega)
        unfold Rq.v at e3 hq
        simp at e3
        rw [e3.1] at hq ⊢
        exact Or.inr ⟨g2, rfl, fun j hj => own_int hq hj⟩
    · rcases hq.2 with ⟨h1, h2⟩ | ⟨g2, c2, cur, e3, _, _, e4, _⟩
      · unfold Rq.v at h1; simp at h1; omega
      · unfold Rq.v at e3; simp at e3; omega
    · intro h9
      rcases hq.2 with ⟨h1, h2⟩ | ⟨g2, c2, cur, e3, _, _, e4, _⟩
      · unfold Rq.v at h1; simp at h1; exact h1.2.2
      · unfold Rq.v at e3; simp at e3; rw [h9] at e3; exact absurd e3.1 (by simp)
  · have hx : qs[i]? = some qs[i] := List.getElem?_eq_getElem hi
    rw [hx]
    exact Nat.le_trans (all _ (List.getElem_mem hi)).2 (by decide)
theorem PdO.prog' {B lk fk wk : Nat} {la fa wa : Option Addr} {bl : List Pg.Bk} {os : List Int} {ns : List (Int × Int)} {W : World} (h : PdO B (.slice la bl.length lk) bl (.slice fa os.length fk) os (.slice wa ns.length wk) ns W) : PgAt (pgOf bl os ns) la fa wa W ∧ PgSmall (pgOf bl os ns) := by
  obtain ⟨la', lk', fa', fk', wa', wk', e1, e2, e3, h1, h2⟩ := h.prog
  cases e1
  cases e2
  cases e3
  exact ⟨h1, h2⟩
theorem gdinfo : (Tryz.prog.info? 24).map (fun i => (i.zero, i.size, i.bytes)) = some (some (.slice none 0 0), 1, 24) := by kernel_rfl
theorem own_low {B B' s n : Nat} {T : TypeId} {v : Value} {xs : List Value} {W : World} (h : W.ownsRow B T s v n xs) (hb : B' ≤ B) : W.ownsRow B' T s v n xs := by
  refine ⟨h.1, ?_⟩
  rcases h.2 with h2 | ⟨g, cap, cur, e1, e2, e3⟩
  · exact Or.inl h2
  · exact Or.inr ⟨g, cap, cur, e1, Nat.le_trans hb e2, e3⟩
theorem ins_nat (p : Pg.Prog) (h : p.bn ≤ 1000) : ∃ M : Nat, Pg.ins p = (M : Int) ∧ M ≤ 1000 := by
  by_cases r : Pg.Right p
  · exact ⟨_, Pg.ins_yes r, Nat.le_trans (Pg.insTo_le p.B p.bn) h⟩
  · exact ⟨0, Pg.ins_no r, by omega⟩
/-- What is told of a drawn run. -/
def GdEnd (e : Ending) (W : World) : Prop := ∃ (n : Pg.Prog) (la : Option Addr) (lk : Nat) (fa : Option Addr) (fk : Nat) (wa : Option Addr) (wk : Nat) (ga : Option Addr) (N ca : Nat) (LN CK : Nat → Nat) (L : Nat → Nat → Int), e = .returned (.tuple #[pgV n la lk fa fk wa wk, .slice ga N ca]) ∧ PgAt n la fa wa W ∧ PgSmall n ∧ LsC ga N LN CK L W ∧ N ≤ 1048576 ∧ ∀ i, i < N → LN i ≤ 1048576
set_option maxRecDepth 100000 in
set_option maxHeartbeats 16000000 in
theorem drawGR_any (a : Option Addr) (len cap : Nat) (w : World) (h : Bytes a len w) (hl : len ≤ 4194304) :
    Calls Tryz.prog 6 #[.slice a len cap] w fun e w' => GdEnd e w' ∧ Below w.heap.size w w' := by
  obtain ⟨i0, hi0, hz0, hz1, hz2⟩ := info_parts gdinfo
  have HI0 := Lib.hid (And.intro hi0 (And.intro hz0 (And.intro hz1 hz2)))
  obtain ⟨r, hr⟩ : ∃ r, r = w.heap.size := ⟨_, rfl⟩
  obtain ⟨W0, hW0⟩ : ∃ W, W = w.alloc (.cells #[.slice none 0 0, .slice none 0 0, .slice none 0 0] 27) := ⟨_, rfl⟩
  obtain ⟨sb, hsb⟩ : ∃ s, s = W0.heap.size := ⟨_, rfl⟩
  have HR0 : Hid (W0.rowIs r 27 3 (rowN [.slice none 0 0, .slice none 0 0, .slice none 0 0])) := by show World.rowIs _ _ _ _ _; rw [hW0, hr]; exact rowN_alloc w [.slice none 0 0, .slice none 0 0, .slice none 0 0] _
  have HB0 : Hid (Below w.heap.size w W0) := by show Below _ _ _; rw [hW0]; exact nbel_alloc _ _
  have HBY : Hid (Bytes a len W0) := by
    show Bytes a len W0
    intro i hi
    obtain ⟨cb, co, z, e, c, z0, z1⟩ := h i hi
    exact ⟨cb, co, z, e, (HB0.out.cell (World.block_lt_of_cell? _ _ c)).trans c, z0, z1⟩
  have HRS : Hid (r < sb ∧ w.heap.size ≤ r) := by show _ ∧ _; rw [hsb, hW0, hr]; simp
  have HW := Lib.hid hW0
  have HRR := Lib.hid hr
  have HSB := Lib.hid hsb
  clear hi0 hz0 hz1 hz2 hW0 hr hsb h
  go_enter Tryz.func6, Tryz.ntmps6
  go_wp2_with fail
  rw [← HRR.out, ← HW.out]
  refine (source_any a len cap _ HBY.out hl).mono ?_
  rintro e w1 ⟨rfl, hS, hb⟩
  rw [← HSB.out] at hS ⊢
  have HB1 : Hid (Below w.heap.size w w1) := HB0.out.trans (hb.mono HB0.out.size)
  have HR1 := Lib.hid (nrow_below HR0.out hb)
  have HS1 := Lib.hid hS
  clear hS hb HB0 HR0 HBY HW HRR HSB
  go_wp2_with fail
  refine (l20Prog_any sb _ HS1.out).mono ?_
  rintro e w2 ⟨⟨va, bl, vf, os, vw, ns, rfl, hO⟩, hD⟩
  obtain ⟨la, lk, fa, fk, wa, wk, rfl, rfl, rfl, _, _⟩ := hO.prog
  have HO := Lib.hid hO
  have HD := Lib.hid hD
  have HLT : Hid (sb < w1.heap.size) := HS1.out.lt
  have HR2 := Lib.hid (HR1.out.of_block (hD.2.2.2.2.2 r HR1.out.lt (by have := HRS.out; omega)))
  clear hO hD HR1
  obtain ⟨g, hg⟩ : ∃ g, g = w2.heap.size := ⟨_, rfl⟩
  obtain ⟨V2, hV2⟩ : ∃ V, V = w2.alloc (.cells #[.slice la bl.length lk, .slice fa os.length fk, .slice wa ns.length wk] 27) := ⟨_, rfl⟩
  obtain ⟨q, hq⟩ : ∃ q, q = V2.heap.size := ⟨_, rfl⟩
  obtain ⟨V3, hV3⟩ : ∃ V, V = V2.alloc (.cells #[] 24) := ⟨_, rfl⟩
  have b2 : Below w2.heap.size w2 V2 := by rw [hV2]; exact nbel_alloc _ _
  have b3 : Below V2.heap.size V2 V3 := by rw [hV3]; exact nbel_alloc _ _
  have b23 : Below w2.heap.size w2 V3 := b2.trans (b3.mono b2.size)
  have HS : Hid (GdS w1 sb r g (.slice la bl.length lk) bl (.slice fa os.length fk) os (.slice wa ns.length wk) ns (.slice (some ⟨q, 0, none⟩) 0 0) [] V3) := by
    have far : ∀ {S : TypeId} {s n : Nat} {v : Value} {xs : List Value}, w2.ownsRow w1.heap.size S s v n xs → V3.ownsRow w1.heap.size S s v n xs := fun ho => d_far ho (fun k _ hl => b23.block k hl)
    refine ⟨⟨far HO.out.oa, far HO.out.of, far HO.out.ow, HO.out.nm, HO.out.len⟩, nrow_below (by rw [hV2, hg]; exact rowN_alloc w2 [.slice la bl.length lk, .slice fa os.length fk, .slice wa ns.length wk] _) b3, nrow_below HR2.out b23, ?_, (fun x hx => by cases hx), pdrew_bel HD.out b23, HLT.out, by rw [hg]; exact HD.out.2.2.2.2.1, HRS.out.1⟩
    have h0 := World.ownsRow_made (e := 24) (size := 1) V2 #[] 0 (Nat.le_refl _) (Nat.zero_le _) rfl
    rw [← hV3, ← hq] at h0
    exact own_low h0 (by have := HD.out.2.2.2.2.1; have := b2.size; omega)
  have hgq : q = g + 1 := by rw [hq, hV2, hg]; simp
  rw [hV2] at hV3
  have HV3 := Lib.hid hV3
  have HGG := Lib.hid hg
  have HQG := Lib.hid hgq
  obtain ⟨z, cz, z0, z1⟩ := pdsrc_size HS.out.src.1
  rw [hV3] at cz
  clear b2 b3 b23 hV2 hV3 hg hq hgq HO HD HR2
  go_wp2_with fail
  rw [← HGG.out, ← HQG.out, ← HV3.out]
  clear HGG HQG HV3 cz
  refine (n_any sb (5 + z) _ HS.out.src.1 (by omega)).mono ?_
  rintro e w3 ⟨⟨v, rfl, va, vb, vc⟩, hD⟩
  have vd : v ≤ 17 := by
    have := vb (by omega)
    omega
  replace HS := Lib.hid (HS.out.draw hD)
  clear hD vb vc z0 z1
  go_wp2_with fail
  refine (one_any sb 40 _ HS.out.src.1 (by omega)).mono ?_
  rintro e w4 ⟨⟨bb, rfl⟩, hD⟩
  replace HS := Lib.hid (HS.out.draw hD)
  clear hD
  go_upto_if 21 with fail
  go_cut [7] from 22 to 24 (fun nv wx => ∃ N : Nat, nv = .int .i64 N ∧ N ≤ 101 ∧ Hid (GdS w1 sb r g (.slice la bl.length lk) bl (.slice fa os.length fk) os (.slice wa ns.length wk) ns (.slice (some ⟨q, 0, none⟩) 0 0) [] wx))
  case first =>
    cases bb
    · obtain ⟨N, rfl⟩ : ∃ N : Nat, v = (N : Int) := ⟨v.toNat, by omega⟩
      go_wp2_with fail
      go_meet
      case rel => exact ⟨N, rfl, by omega, HS⟩
    · go_wp2_with fail
      refine (n_any sb 3 _ HS.out.src.1 (by omega)).mono ?_
      rintro e w5 ⟨⟨u, rfl, ua, ub, uc⟩, hD⟩
      have ud := ub (by omega)
      replace HS := Lib.hid (HS.out.draw hD)
      obtain ⟨t, rfl⟩ : ∃ t : Nat, u = (t : Int) := ⟨u.toNat, by omega⟩
      clear hD ub uc
      go_wp2_with fail
      go_meet
      case rel => exact ⟨99 + t, by first | rfl | simp, by omega, HS⟩
  case rest =>
    clear HS va vd
    obtain ⟨N, rfl, hN, HS⟩ := hcut
    obtain ⟨V5, hV5⟩ : ∃ w', w' = wc := ⟨_, rfl⟩
    rw [← hV5] at HS ⊢
    clear hV5
    go_wp2_with fail
    go_loopw [6, 7] (fun ov nv wr => ∃ (i : Nat) (qs : List Rq), i ≤ N ∧ nv = .int .i64 ((N : Int) - (i : Int)) ∧ Hid (qs.length ≤ i) ∧ Hid (GdS w1 sb r g (.slice la bl.length lk) bl (.slice fa os.length fk) os (.slice wa ns.length wk) ns ov qs wr)) (fun _ nv _ => (intOf nv).toNat)
    case atStart => exact ⟨0, [], Nat.zero_le _, by simp, Nat.le_refl _, HS⟩
    case round =>
      obtain ⟨i, qs, hi, rfl, hQ, hS⟩ := hrel
      clear HS
      obtain ⟨oa, oc, hov⟩ := d_shape hS.out.own
      subst hov
      by_cases hlt : i < N
      · have hltz : (0 : Int) < (N : Int) - (i : Int) := by omega
        obtain ⟨⟨p0, p1, p2⟩, _⟩ := rowN3 hS.out.box
        go_wp2_with fail
        refine (specIns_any (pgOf bl os ns) la lk fa fk wa wk _ hS.out.pr.prog'.1 hS.out.pr.prog'.2).mono ?_
        rintro e w6 ⟨rfl, hb⟩
        replace hS := Lib.hid (hS.out.bel hb)
        obtain ⟨M, hM, hM2⟩ := ins_nat (pgOf bl os ns) (by have := hS.out.pr.len; show bl.length ≤ 1000; omega)
        rw [hM]
        clear hb hM p0 p1 p2
        go_wp2_with fail
        refine (dlist_any sb M hM2 _ hS.out.src.1).mono ?_
        rintro e w7 ⟨lv, rfl, zs, hzs, hDL⟩
        obtain ⟨qa, qc, hql⟩ := d_shape hDL.1
        subst hql
        have HX : Hid (w7.ownsRow w1.heap.size 2 1 (Rq.v ⟨qa, qc, zs⟩) zs.length (zs.map (Value.int .i64)) ∧ zs.length ≤ 1000) := ⟨own_low hDL.1 hS.out.src.2.2.2.2.1, by omega⟩
        replace hS := Lib.hid (hS.out.draw hDL.2.1)
        clear hDL hzs
        obtain ⟨hi0, hz0, hz1, hz2⟩ := HI0.out
        go_wp2_with (at_builtin; refine wpList_append_own _ rfl _ _ 28 rfl w1.heap.size 24 i0 _ 1 24 Tryz.underlying28 hi0 hz0 hz1 hz2 rfl (by decide) _ _ _ rfl (hS.out.own.alloc _) ⟨w7.heap.size, 0, none⟩ 1 1 [.slice qa zs.length qc] rfl rfl ?c1 ?c2 ?c3 ?c4 ?c5 ?_)
        case c1 =>
          intro j u hj
          match j, hj with
          | 0, hj => (simp at hj; subst hj; simp [Addr.add])
        case c2 =>
          intro u hu
          simp at hu
          subst hu
          rfl
        case c3 => have := hQ.out; unfold maxLen; omega
        case c4 => have := hQ.out; omega
        case c5 => have := hS.out.src.2.2.2.2.1; simp; omega
        intro v' w9 hown hgrow hnil
        obtain ⟨na, nc, hnv⟩ := d_shape hown
        subst hnv
        have HS9 := Lib.hid (hS.out.push (x := ⟨qa, qc, zs⟩) HX.out hgrow (by simpa [Rq.v] using hown))
        clear hown hgrow hnil hS HX hi0 hz0 hz1 hz2
        go_wp2_with fail
        go_roundw
        case rel => exact ⟨i + 1, qs ++ [⟨qa, qc, zs⟩], by omega, by first | rfl | (congr 1; omega), by show _ ≤ _; have := hQ.out; rw [List.length_append]; simp; omega, HS9⟩
        case measure => simp [intOf]; omega
      · obtain rfl : N = i := by omega
        have hltz : ¬ (0 : Int) < (N : Int) - (N : Int) := by omega
        go_wp2_with fail
        refine (one_any sb 20 _ hS.out.src.1 (by omega)).mono ?_
        rintro e w6 ⟨⟨b2, rfl⟩, hD⟩
        replace hS := Lib.hid (hS.out.draw hD)
        clear hD
        go_upto_if 37 with fail
        go_cut [6] from 37 to 41 (fun ov wx => ∃ qs : List Rq, qs.length ≤ 102 ∧ Hid (GdS w1 sb r g (.slice la bl.length lk) bl (.slice fa os.length fk) os (.slice wa ns.length wk) ns ov qs wx))
        case first =>
          cases b2
          · go_wp2_with fail
            go_meet
            case rel => exact ⟨qs, by have := hQ.out; omega, hS⟩
          · have HSA := Lib.hid (hS.out.bel (nbel_alloc w6 (.cells #[.int .i64 2] 2)))
            have HX : Hid ((w6.alloc (.cells #[.int .i64 2] 2)).ownsRow w1.heap.size 2 1 (Rq.v ⟨some ⟨w6.heap.size, 0, none⟩, 1, [2]⟩) ([2] : List Int).length (([2] : List Int).map (Value.int .i64)) ∧ ([2] : List Int).length ≤ 1000) :=
              ⟨⟨rfl, Or.inr ⟨w6.heap.size, 1, #[.int .i64 2], rfl, hS.out.src.2.2.2.2.1, blk_alloc_new _ _, Nat.le_refl _, by decide, rfl, rfl⟩⟩, by simp⟩
            obtain ⟨hi0, hz0, hz1, hz2⟩ := HI0.out
            go_wp2_with (at_builtin; refine wpList_append_own _ rfl _ _ 28 rfl w1.heap.size 24 i0 _ 1 24 Tryz.underlying28 hi0 hz0 hz1 hz2 rfl (by decide) _ _ _ rfl (HSA.out.own.alloc _) ⟨w6.heap.size + 1, 0, none⟩ 1 1 [.slice (some ⟨w6.heap.size, 0, none⟩) 1 1] rfl rfl ?c1 ?c2 ?c3 ?c4 ?c5 ?_)
            case c1 =>
              intro j u hj
              match j, hj with
              | 0, hj => (simp at hj; subst hj; simp [Addr.add])
            case c2 =>
              intro u hu
              simp at hu
              subst hu
              rfl
            case c3 => have := hQ.out; unfold maxLen; omega
            case c4 => have := hQ.out; omega
            case c5 => have := hS.out.src.2.2.2.2.1; simp; omega
            intro v' w9 hown hgrow hnil
            obtain ⟨na, nc, hnv⟩ := d_shape hown
            subst hnv
            have HS9 := Lib.hid (HSA.out.push (x := ⟨some ⟨w6.heap.size, 0, none⟩, 1, [2]⟩) HX.out hgrow (by simpa [Rq.v] using hown))
            clear hown hgrow hnil HSA HX hi0 hz0 hz1 hz2
            go_wp2_with fail
            go_meet
            case rel => exact ⟨_, by have := hQ.out; rw [List.length_append]; simp; omega, HS9⟩
        case rest =>
          clear hS hQ
          obtain ⟨qs, hql, hS⟩ := hcut
          obtain ⟨V20, hV20⟩ : ∃ w', w' = wc := ⟨_, rfl⟩
          rw [← hV20] at hS ⊢
          clear hV20
          obtain ⟨ga, ca, hov⟩ := d_shape hS.out.own
          subst hov
          obtain ⟨⟨p0, p1, p2⟩, _⟩ := rowN3 hS.out.box
          obtain ⟨⟨r0, r1, r2⟩, z0, z1, z2⟩ := rowN3 hS.out.res
          have hgl := hS.out.box.lt
          have hrl := hS.out.res.lt
          have m1 := Mut.of_set (B := 0) (i := 0) hS.out.res (Nat.zero_le _) (.slice la bl.length lk)
          have e1 := rowN_put hS.out.res 0 (.slice la bl.length lk) (by simp)
          have m2 := Mut.of_set (B := 0) (i := 1) e1 (Nat.zero_le _) (.slice fa os.length fk)
          have e2 := rowN_put e1 1 (.slice fa os.length fk) (by simp)
          have m3 := Mut.of_set (B := 0) (i := 2) e2 (Nat.zero_le _) (.slice wa ns.length wk)
          have e3 := rowN_put e2 2 (.slice wa ns.length wk) (by simp)
          obtain ⟨VE, hVE⟩ : ∃ V, V = (((V20.setCell ⟨r, 0, none⟩ (.slice la bl.length lk)).setCell ⟨r, 1, none⟩ (.slice fa os.length fk)).setCell ⟨r, 2, none⟩ (.slice wa ns.length wk)) := ⟨_, rfl⟩
          have hpr : PdO w1.heap.size (.slice la bl.length lk) bl (.slice fa os.length fk) os (.slice wa ns.length wk) ns VE := by rw [hVE]; exact ((hS.out.pr.mut m1 (by decide) (by decide) (by decide)).mut m2 (by decide) (by decide) (by decide)).mut m3 (by decide) (by decide) (by decide)
          have how : VE.ownsRow w1.heap.size 24 1 (.slice ga qs.length ca) qs.length (qs.map Rq.v) := by rw [hVE]; exact m3.own (m2.own (m1.own hS.out.own (by decide)) (by decide)) (by decide)
          have hal : ∀ x, x ∈ qs → VE.ownsRow w1.heap.size 2 1 x.v x.zs.length (x.zs.map (Value.int .i64)) ∧ x.zs.length ≤ 1000 := fun x hx => ⟨by rw [hVE]; exact m3.own (m2.own (m1.own (hS.out.all x hx).1 (by decide)) (by decide)) (by decide), (hS.out.all x hx).2⟩
          obtain ⟨ga', ca', hov', hls, hsm⟩ := gd_lists how hal
          cases hov'
          have HPR := Lib.hid hpr.prog'
          have HLS := Lib.hid hls
          have HSM := Lib.hid hsm
          have HBE : Hid (Below w.heap.size w VE) := by
            show Below _ _ _
            have b1 : Below w.heap.size w V20 := HB1.out.trans (hS.out.src.2.below (by have := HRS.out; omega) HB1.out.size)
            rw [hVE]
            exact ((b1.setCell (p := ⟨r, 0, none⟩) HRS.out.2 _).setCell (p := ⟨r, 1, none⟩) HRS.out.2 _).setCell (p := ⟨r, 2, none⟩) HRS.out.2 _
          have HE3 : Hid (VE.rowIs r 27 3 (rowN [.slice la bl.length lk, .slice fa os.length fk, .slice wa ns.length wk])) := by show World.rowIs _ _ _ _ _; rw [hVE]; exact e3
          have HVE := Lib.hid hVE
          clear m1 m2 m3 e1 e2 e3 hpr how hal hls hsm hS hVE
          go_wp2_with fail
          rw [← HVE.out]
          obtain ⟨⟨t0, t1, t2⟩, _⟩ := rowN3 HE3.out
          exact bodyPost_ret (v := .tuple #[pgV (pgOf bl os ns) la lk fa fk wa wk, .slice ga qs.length ca]) (by simp only [results, Tryz.results6]; simp [go_sem, t0, t1, t2, pgOf]) rfl ⟨⟨pgOf bl os ns, la, lk, fa, fk, wa, wk, ga, qs.length, ca, _, _, _, rfl, HPR.out.1, HPR.out.2, HLS.out, by omega, HSM.out⟩, HBE.out⟩
end Go.Proofs.YtogfjomfhenhfaaGreatDoor
namespace Go.Proofs.YtogfjomfhenhfaaGreatDoor
open Go.RowKit Go.Deep

namespace Gd
/-- The sum of the first outs that are one of two. -/
def both (O R : Nat → Int) (a b : Int) : Nat → Int
  | 0 => 0
  | j + 1 => if O j = a ∨ O j = b then both O R a b j + R j else both O R a b j
def sum (R : Nat → Int) : Nat → Int
  | 0 => 0
  | j + 1 => sum R j + R j
theorem both_bd {O R : Nat → Int} {a b : Int} {n : Nat} (h : ∀ j, j < n → 0 ≤ R j ∧ R j ≤ 1) : ∀ j, j ≤ n → 0 ≤ both O R a b j ∧ both O R a b j ≤ j := by
  intro j
  induction j with
  | zero => intro _; exact ⟨Int.le_refl 0, Int.le_refl 0⟩
  | succ j ih =>
    intro hj
    have i1 := ih (by omega)
    have h1 := h j (by omega)
    simp only [both]
    split <;> omega
theorem sum_bd {R : Nat → Int} {n : Nat} (h : ∀ j, j < n → 0 ≤ R j ∧ R j ≤ 1) : ∀ j, j ≤ n → 0 ≤ sum R j ∧ sum R j ≤ j := by
  intro j
  induction j with
  | zero => intro _; exact ⟨Int.le_refl 0, Int.le_refl 0⟩
  | succ j ih =>
    intro hj
    have i1 := ih (by omega)
    have h1 := h j (by omega)
    simp only [sum]
    omega
theorem both_zero {O R : Nat → Int} {a b : Int} {n : Nat} (h : ∀ j, j < n → R j = 0) : ∀ j, j ≤ n → both O R a b j = 0 := by
  intro j
  induction j with
  | zero => intro _; rfl
  | succ j ih =>
    intro hj
    have i1 := ih (by omega)
    have h1 := h j (by omega)
    simp only [both]
    split <;> omega
theorem sum_zero {R : Nat → Int} {n : Nat} (h : ∀ j, j < n → R j = 0) : ∀ j, j ≤ n → sum R j = 0 := by
  intro j
  induction j with
  | zero => intro _; rfl
  | succ j ih =>
    intro hj
    have i1 := ih (by omega)
    have h1 := h j (by omega)
    simp only [sum]
    omega
theorem rising_lt {n : Nat} {O : Nat → Int} {top : Nat} (h : Pl.Rising n O top) {i j : Nat} (hij : i < j) (hj : j < n) : O i < O j := by
  induction j with
  | zero => omega
  | succ j ih =>
    have h1 := (h (j + 1) hj).2 (by omega)
    simp only [Nat.add_sub_cancel] at h1
    by_cases e : i = j
    · subst e; exact h1
    · have := ih (by omega) (by omega); omega
open Classical in
theorem both_two {O : Nat → Int} {T : Nat → Int} {a b : Int} {n top : Nat} (h : Pl.Rising n O top) (hT : ∀ j, j < n → 0 ≤ T (O j).toNat ∧ T (O j).toNat ≤ 1) : ∀ j, j ≤ n →
    both O (fun q => T (O q).toNat) a b j ≤ (if ∃ q, q < j ∧ O q = a then T a.toNat else 0) + (if ∃ q, q < j ∧ O q = b then T b.toNat else 0) := by
  intro j
  induction j with
  | zero => intro _; simp [both]
  | succ j ih =>
    intro hj
    have i1 := ih (by omega)
    have h1 := hT j (by omega)
    have mono : ∀ c, (∃ q, q < j ∧ O q = c) → ∃ q, q < j + 1 ∧ O q = c := fun c ⟨q, q1, q2⟩ => ⟨q, by omega, q2⟩
    have step : ∀ c, 0 ≤ (if ∃ q, q < j + 1 ∧ O q = c then T c.toNat else 0) - (if ∃ q, q < j ∧ O q = c then T c.toNat else 0) ∧ (O j = c → (if ∃ q, q < j + 1 ∧ O q = c then T c.toNat else 0) - (if ∃ q, q < j ∧ O q = c then T c.toNat else 0) = T c.toNat) := by
      intro c
      by_cases e : O j = c
      · have no : ¬ ∃ q, q < j ∧ O q = c := fun ⟨q, q1, q2⟩ => by
          have := rising_lt h q1 (show j < n by omega)
          omega
        have yes : ∃ q, q < j + 1 ∧ O q = c := ⟨j, by omega, e⟩
        rw [if_pos yes, if_neg no]
        rw [e] at h1
        exact ⟨by omega, fun _ => by omega⟩
      · have same : (∃ q, q < j + 1 ∧ O q = c) ↔ ∃ q, q < j ∧ O q = c := by
          constructor
          · rintro ⟨q, q1, q2⟩
            by_cases eq : q = j
            · subst eq; exact absurd q2 e
            · exact ⟨q, by omega, q2⟩
          · exact mono c
        by_cases yes : ∃ q, q < j ∧ O q = c
        · rw [if_pos yes, if_pos (same.2 yes)]; exact ⟨by omega, fun k => absurd k e⟩
        · rw [if_neg yes, if_neg (fun k => yes (same.1 k))]; exact ⟨by omega, fun k => absurd k e⟩
    have sa := step a
    have sb := step b
    simp only [both]
    split
    · rename_i hc
      rcases hc with hc | hc
      · have x := sa.2 hc
        have y := sb.1
        have z : T (O j).toNat = T a.toNat := by rw [hc]
        omega
      · have x := sb.2 hc
        have y := sa.1
        have z : T (O j).toNat = T b.toNat := by rw [hc]
        omega
    · have x := sa.1
      have y := sb.1
      omega
section
variable {p : Pg.Prog} {s : Cy.Lg} {m : Nat} {I : Nat → Int}
theorem out_bit (h : Cy.Fit p s m I) : ∀ j, j < p.on → 0 ≤ Cy.out p s I j ∧ Cy.out p s I j ≤ 1 := by
  intro j hj
  unfold Cy.out
  split
  · omega
  · have ho := (h.1.r.o j hj).1
    exact (Cy.run_bits h.1 h.bits (Nat.le_refl _)).1 _ (by omega)
/-- In no cycle are both outs of a never true. -/
theorem both_out (h : Cy.Fit p s m I) {i : Nat} (hi : i < p.nn) {j : Nat} (hj : j ≤ p.on) : both p.O (Cy.out p s I) (p.N (i * 2)) (p.N (i * 2 + 1)) j ≤ 1 := by
  by_cases hf : Cy.fell p s I = true
  · rw [both_zero (n := p.on) (fun q _ => by unfold Cy.out; rw [if_pos hf]) j hj]; omega
  · have e : Cy.out p s I = fun q => (Cy.run p s I p.bn).T (p.O q).toNat := funext (fun q => by unfold Cy.out; rw [if_neg hf])
    have hb := (Cy.run_bits h.1 h.bits (Nat.le_refl _)).1
    have hbr : ¬ Cy.Broke p (Cy.run p s I p.bn).T p.nn := fun k => hf (by unfold Cy.fell; rw [dB_tt k]; simp)
    obtain ⟨n1, n2, _⟩ := h.1.r.v i hi
    have hin : ∀ c, Pl.Has p.on p.O c → 0 ≤ (Cy.run p s I p.bn).T c.toNat ∧ (Cy.run p s I p.bn).T c.toNat ≤ 1 := fun c hc => by
      obtain ⟨q, q1, q2⟩ := hc
      have ho := (h.1.r.o q q1).1
      rw [q2] at ho
      exact hb _ (by omega)
    have ha := hin _ n1
    have hb2 := hin _ n2
    rw [e]
    have := both_two (a := p.N (i * 2)) (b := p.N (i * 2 + 1)) h.1.r.o (T := (Cy.run p s I p.bn).T) (fun q hq => hb _ (by have := (h.1.r.o q hq).1; omega)) j hj
    have nb : ¬ ((Cy.run p s I p.bn).T (p.N (i * 2)).toNat = 1 ∧ (Cy.run p s I p.bn).T (p.N (i * 2 + 1)).toNat = 1) := fun k => hbr ⟨i, hi, k.1, k.2⟩
    have k1 : (if ∃ q, q < j ∧ p.O q = p.N (i * 2) then (Cy.run p s I p.bn).T (p.N (i * 2)).toNat else 0) ≤ (Cy.run p s I p.bn).T (p.N (i * 2)).toNat := by split <;> omega
    have k2 : (if ∃ q, q < j ∧ p.O q = p.N (i * 2 + 1) then (Cy.run p s I p.bn).T (p.N (i * 2 + 1)).toNat else 0) ≤ (Cy.run p s I p.bn).T (p.N (i * 2 + 1)).toNat := by split <;> omega
    have t1 : (Cy.run p s I p.bn).T (p.N (i * 2)).toNat ≤ 0 ∨ (Cy.run p s I p.bn).T (p.N (i * 2)).toNat = 1 := by omega
    have t2 : (Cy.run p s I p.bn).T (p.N (i * 2 + 1)).toNat ≤ 0 ∨ (Cy.run p s I p.bn).T (p.N (i * 2 + 1)).toNat = 1 := by omega
    by_cases q1 : (Cy.run p s I p.bn).T (p.N (i * 2)).toNat = 1
    · have q2 : ¬ (Cy.run p s I p.bn).T (p.N (i * 2 + 1)).toNat = 1 := fun k => nb ⟨q1, k⟩
      refine Int.le_trans this ?_
      omega
    · refine Int.le_trans this ?_
      omega
/-- What has fallen back stays so, and all its outs are false. -/
theorem fallen (h : s.fl = true) : (Cy.next p s I).fl = true ∧ ∀ j, Cy.out p s I j = 0 := by
  have hf : Cy.fell p s I = true := by unfold Cy.fell; rw [h]; rfl
  exact ⟨hf, fun j => by unfold Cy.out; rw [if_pos hf]⟩
theorem fit_of (h : Cy.code p s m I = 0) : ¬ 400 < m ∧ Cy.Fit p s m I := by
  by_cases b : 400 < m
  · rw [Cy.code_big b] at h; exact absurd h (by decide)
  · by_cases f : Cy.Fit p s m I
    · exact ⟨b, f⟩
    · rw [Cy.code_bad b f] at h; exact absurd h (by decide)
end
end Gd
end Go.Proofs.YtogfjomfhenhfaaGreatDoor
namespace Go.Proofs.YtogfjomfhenhfaaGreatDoor
open Go.RowKit Go.Deep

theorem gdinfo_i64 : (Tryz.prog.info? 2).map (fun i => (i.zero, i.size, i.bytes)) = some (some (.int .i64 0), 1, 8) := by kernel_rfl
set_option maxRecDepth 100000 in
set_option maxHeartbeats 2000000 in
theorem gdcopy_any (a : Option Addr) (m cap : Nat) (f : Nat → Int) (w : World) (h : IsAt a m f w) (hm : m ≤ 1000) (ha : a = none → cap = 0) :
    Calls Tryz.prog 11 #[.slice a m cap] w fun e w' => (∃ g c, e = .returned (.slice (some ⟨g, 0, none⟩) m c) ∧ w.heap.size ≤ g ∧ IsAt (some ⟨g, 0, none⟩) m f w' ∧ m ≤ c) ∧ Below w.heap.size w w' := by
  obtain ⟨i0, hi, hz0, hz1, hz2⟩ := info_parts gdinfo_i64
  have H := Lib.hid h
  clear h
  obtain ⟨ab, hab⟩ : ∃ ab : Addr, (a = some ab ∨ (a = none ∧ m = 0)) ∧ ∀ j, j < m → w.cell? (ab.add j) = some (.int .i64 (f j)) := by
    by_cases hm0 : m = 0
    · subst hm0
      cases a with
      | none => exact ⟨⟨0, 0, none⟩, Or.inr ⟨rfl, rfl⟩, fun j hj => absurd hj (Nat.not_lt_zero _)⟩
      | some b => exact ⟨b, Or.inl rfl, fun j hj => absurd hj (Nat.not_lt_zero _)⟩
    · obtain ⟨b, e, _⟩ := H.out.at1 (show 0 < m by omega)
      refine ⟨_, Or.inl e, fun j hj => ?_⟩
      obtain ⟨b', e', c'⟩ := H.out.at1 hj
      rw [e] at e'
      cases e'
      rw [Addr.add_lit]
      simpa using c'
  obtain ⟨ho, hcl⟩ := hab
  rcases ho with rfl | ⟨rfl, rfl⟩
  case inr =>
    obtain rfl := ha rfl
    go_enter Tryz.func11, Tryz.ntmps11
    go_wp2_with fail
    go_ret
    exact ⟨⟨w.heap.size, ⟨0, rfl⟩, Nat.le_refl _, Or.inl rfl⟩, (Below.refl _ _).alloc (Nat.le_refl _) _⟩
  have HC := Lib.hid hcl
  clear hcl
  go_enter Tryz.func11, Tryz.ntmps11
  go_wp2_with (at_builtin; refine wpList_append_own _ rfl _ _ 24 rfl w.heap.size 2 i0 (.int .i64 0) 1 8 Tryz.underlying24 hi hz0 hz1 hz2 rfl (by decide) _ _ _ rfl (World.ownsRow_made w #[] 0 (Nat.le_refl _) (Nat.zero_le _) rfl) ab m cap ((List.range m).map fun j => Value.int .i64 (f j)) rfl ?qc1 ?qc2 ?qc3 ?qc4 ?qc5 ?qc6 ?_)
  case qc1 => simp
  case qc2 =>
    intro j u hj
    have hjn : j < m := by
      have := (List.getElem?_eq_some_iff.1 hj).1
      simpa using this
    refine Lib.cell?_alloc_some _ ?_
    rw [HC.out j hjn, ← hj]
    simp [hjn]
  case qc3 =>
    intro u hu
    obtain ⟨x, _, rfl⟩ := List.mem_map.1 hu
    rfl
  case qc4 => unfold maxLen; omega
  case qc5 => omega
  case qc6 => simp
  intro v' w1 hown hgrow hnil
  have HB : Hid (Below w.heap.size w w1) := ((Below.refl _ w).alloc (Nat.le_refl _) _).grown hgrow (by simp) (by intro k hk; simp [Value.ownBlock] at hk; omega)
  rcases hown.2 with ⟨e1, _⟩ | ⟨g, c, cur, e1, h2, h3, h4, _, h6, h7⟩
  · exact absurd e1 (by simpa using hnil)
  · subst e1
    have HAT : Hid (IsAt (some ⟨g, 0, none⟩) m f w1) := Or.inr ⟨g, rfl, fun j hj => by
      have e2 : (cur.toList.take (m * 1))[j]? = some (.int .i64 (f j)) := by
        rw [h7]
        simp [hj]
      rw [List.getElem?_take_of_lt (by omega), Array.getElem?_toList] at e2
      rw [cell_of_row w1 g j cur _ (0, 0) h3, e2]⟩
    clear hown hgrow hnil h3 h6 h7
    go_wp2_with fail
    go_ret
    exact ⟨⟨g, c, rfl, h2, HAT.out, h4⟩, HB.out⟩
set_option maxRecDepth 100000 in
set_option maxHeartbeats 2000000 in
theorem gdsum_any (a : Option Addr) (n cap : Nat) (f : Nat → Int) (w : World) (h : IsIn a n f w) (hn : n ≤ 1000) (hf : ∀ i, i < n → 0 ≤ f i ∧ f i ≤ 1) :
    Calls Tryz.prog 13 #[.slice a n cap] w fun e w' => e = .returned (.int .i64 (Gd.sum f n)) ∧ w' = w := by
  have H := Lib.hid h
  have HF := Lib.hid hf
  clear h hf
  go_enter Tryz.func13, Tryz.ntmps13
  go_wp2_with fail
  go_loopw [3, 4] (fun sv iv wr => ∃ (i : Nat), i ≤ n ∧ iv = .int .i64 i ∧ sv = .int .i64 (Gd.sum f i) ∧ Hid (wr = w)) (fun _ iv _ => n - (intOf iv).toNat)
  case atStart => exact ⟨0, Nat.zero_le _, rfl, rfl, rfl⟩
  case round =>
    obtain ⟨i, hi, rfl, rfl, hW⟩ := hrel
    obtain rfl := hW.out
    clear hW
    by_cases hlt : i < n
    · have hltz : (i : Int) < (n : Int) := by omega
      obtain ⟨b, o, rfl, c0⟩ := H.out.at1 hlt
      have hs := Gd.sum_bd (R := f) (n := n) (fun j hj => HF.out j hj) i (by omega)
      have hx := HF.out i hlt
      obtain ⟨s, hse⟩ : ∃ s, s = Gd.sum f i := ⟨_, rfl⟩
      rw [← hse] at hs ⊢
      have HS : Hid (s + f i = Gd.sum f (i + 1)) := by show _ = _; rw [hse]; rfl
      have hs0 := hs.1
      have hs1 : s ≤ 100000000000000 := by omega
      have hx0 := hx.1
      have hx1 := hx.2
      clear hse hs hx
      go_wp2_with fail
      go_roundw
      case rel => exact ⟨i + 1, by omega, by go_num, by rw [HS.out], by first | exact rfl | exact (trivial : True)⟩
      case measure => simp [intOf]; omega
    · obtain rfl : i = n := by omega
      go_wp2_with fail
      go_ret
      exact ⟨rfl, rfl⟩
end Go.Proofs.YtogfjomfhenhfaaGreatDoor
namespace Go.Proofs.YtogfjomfhenhfaaGreatDoor
open Go.RowKit Go.Deep

namespace Cy
section
variable {b : Pg.Bk} {i : Nat} {T0 C0 T : Nat → Int} {x : Int}
theorem vl_1 (h : b.kind = 1) : vl b i T0 C0 T x = x := by unfold vl; rw [h]; rfl
theorem vl_2 (h : b.kind = 2) : vl b i T0 C0 T x = min (T b.a.toNat) (T b.b.toNat) := by unfold vl; rw [h]; rfl
theorem vl_3 (h : b.kind = 3) : vl b i T0 C0 T x = max (T b.a.toNat) (T b.b.toNat) := by unfold vl; rw [h]; rfl
theorem vl_4 (h : b.kind = 4) : vl b i T0 C0 T x = 1 - T b.a.toNat := by unfold vl; rw [h]; rfl
theorem vl_5 (h : b.kind = 5) : vl b i T0 C0 T x = T0 b.a.toNat := by unfold vl; rw [h]; rfl
theorem vl_6 (h : b.kind = 6) : vl b i T0 C0 T x = min (1 - T b.b.toNat) (max (T b.a.toNat) (T0 i)) := by unfold vl; rw [h]; rfl
theorem vl_7 (h : b.kind = 7) : vl b i T0 C0 T x = if b.b < ct b i C0 T then 1 else 0 := by unfold vl; rw [h]; rfl
theorem ct_7 (h : b.kind = 7) (hT : T b.a.toNat = 1) : ct b i C0 T = min 101 (C0 i + 1) := by unfold ct; rw [if_pos ⟨h, hT⟩]
theorem ct_70 (hT : T b.a.toNat ≠ 1) : ct b i C0 T = 0 := by unfold ct; rw [if_neg (fun q => hT q.2)]
end
theorem upd_same {f : Nat → Int} {i : Nat} {z : Int} (h : f i = z) : upd f i z = f := by
  funext j
  unfold upd
  by_cases e : j = i
  · rw [if_pos e, e, h]
  · rw [if_neg e]
theorem run_T1 (p : Pg.Prog) (s : Lg) (I : Nat → Int) (i : Nat) : (run p s I (i + 1)).T = updI (run p s I i).T i (vl (p.B i) i s.T s.C (run p s I i).T (I (Pg.insTo p.B i))) := rfl
theorem run_C1 (p : Pg.Prog) (s : Lg) (I : Nat → Int) (i : Nat) : (run p s I (i + 1)).C = updI (run p s I i).C i (ct (p.B i) i s.C (run p s I i).T) := rfl
theorem run_C0 {p : Pg.Prog} {s : Lg} {I : Nat → Int} {i : Nat} (h : ct (p.B i) i s.C (run p s I i).T = 0) : (run p s I (i + 1)).C = (run p s I i).C := by
  show upd _ i _ = _
  rw [h]
  exact upd_same (run_C_ge p s I i i (Nat.le_refl _))
theorem and_bit {x y : Int} (hx : 0 ≤ x ∧ x ≤ 1) (hy : 0 ≤ y ∧ y ≤ 1) : bits BinOp.and IntKind.i64 x y = min x y := by
  have h1 : x = 0 ∨ x = 1 := by omega
  have h2 : y = 0 ∨ y = 1 := by omega
  rcases h1 with rfl | rfl <;> rcases h2 with rfl | rfl <;> rfl
theorem or_bit {x y : Int} (hx : 0 ≤ x ∧ x ≤ 1) (hy : 0 ≤ y ∧ y ≤ 1) : bits BinOp.or IntKind.i64 x y = max x y := by
  have h1 : x = 0 ∨ x = 1 := by omega
  have h2 : y = 0 ∨ y = 1 := by omega
  rcases h1 with rfl | rfl <;> rcases h2 with rfl | rfl <;> rfl
/-- The places that a block of this kind looks at. -/
theorem look_a {b : Pg.Bk} {i n : Nat} (h : Pg.PartsOk b i n) (hk : b.kind = 2 ∨ b.kind = 3 ∨ b.kind = 4 ∨ b.kind = 6 ∨ b.kind = 7) : b.a.toNat < i ∧ ((b.a.toNat : Nat) : Int) = b.a := by
  rcases h with ⟨k, _⟩ | ⟨k, ha, hb⟩ | ⟨k, ha, _⟩ | ⟨k, ha, _⟩ | ⟨k, ha, _⟩
  · omega
  · exact ahead_lt ha
  · exact ahead_lt ha
  · omega
  · exact ahead_lt ha
theorem look_b {b : Pg.Bk} {i n : Nat} (h : Pg.PartsOk b i n) (hk : b.kind = 2 ∨ b.kind = 3 ∨ b.kind = 6) : b.b.toNat < i ∧ ((b.b.toNat : Nat) : Int) = b.b := by
  rcases h with ⟨k, _⟩ | ⟨k, ha, hb⟩ | ⟨k, ha, _⟩ | ⟨k, ha, _⟩ | ⟨k, ha, _⟩
  · omega
  · exact ahead_lt hb
  · omega
  · omega
  · omega
theorem look_p {b : Pg.Bk} {i n : Nat} (h : Pg.PartsOk b i n) (hk : b.kind = 5) : b.a.toNat < n ∧ ((b.a.toNat : Nat) : Int) = b.a := by
  rcases h with ⟨k, _⟩ | ⟨k, ha, hb⟩ | ⟨k, ha, _⟩ | ⟨k, ha, _⟩ | ⟨k, ha, _⟩
  · omega
  · omega
  · omega
  · exact ahead_lt ha
  · omega
end Cy
end Go.Proofs.YtogfjomfhenhfaaGreatDoor
namespace Go.Proofs.YtogfjomfhenhfaaGreatDoor
open Go.RowKit Go.Deep

theorem mk_i64 (n : Nat) (hn : n ≤ 1048576) (w : World) : (Instr.makeSlice 24 (.int .i64 (n : Int)) (.int .i64 (n : Int))).run Tryz.prog w = .ok (.slice (some ⟨w.heap.size, 0, none⟩) n n) (w.alloc (.cells (madeCells #[.int .i64 0] (n * 1)) 2)) := by
  obtain ⟨i0, hi, hz0, hz1, hz2⟩ := info_parts ninfo_i64
  have := run_make (P := Tryz.prog) w 24 2 i0 _ Tryz.underlying24 hi hz0 .i64 .i64 n n (by omega) (Int.le_refl _) (by rw [hz2]; omega) (by omega)
  rw [hz1] at this
  simp only [Int.toNat_natCast] at this
  exact this
/-- Two blocks of noughts behind a box. -/
structure Still (n : Nat) (w : World) (x y : Nat) (T L : TypeId) (l : List Value) (W : World) : Prop where
  bx : W.rowIs w.heap.size L l.length (rowN l)
  t : IsBlk T x n (fun _ => 0) W
  c : IsBlk T y n (fun _ => 0) W
  o : w.heap.size < x ∧ w.heap.size < y ∧ x ≠ y
  old : Below w.heap.size w W
theorem still_w (n : Nat) (w : World) (l : List Value) (T L : TypeId) : Still n w (w.heap.size + 1) (w.heap.size + 1 + 1) T L l (((w.alloc (.cells ⟨l⟩ L)).alloc (.cells (madeCells #[.int .i64 0] n) T)).alloc (.cells (madeCells #[.int .i64 0] n) T)).drew := by
  obtain ⟨A, hA⟩ : ∃ A, A = w.alloc (.cells ⟨l⟩ L) := ⟨_, rfl⟩
  have sA : A.heap.size = w.heap.size + 1 := by rw [hA]; simp
  have rA : A.rowIs w.heap.size L l.length (rowN l) := by rw [hA]; exact rowN_alloc w l L
  have bA : Below w.heap.size w A := by rw [hA]; exact nbel_alloc _ _
  rw [← hA]
  obtain ⟨X, hX⟩ : ∃ X, X = A.alloc (.cells (madeCells #[.int .i64 0] n) T) := ⟨_, rfl⟩
  have sX : X.heap.size = w.heap.size + 1 + 1 := by rw [hX]; simp [sA]
  have bX : Below A.heap.size A X := by rw [hX]; exact nbel_alloc _ _
  have kX : IsBlk T (w.heap.size + 1) n (fun _ => 0) X := by
    have := made_is T #[.int .i64 0] A n (by intro i hi; simp at hi; subst hi; rfl) (by simp)
    rw [← hX, sA] at this
    exact ⟨n, _, Nat.le_refl _, this, fun _ _ => rfl⟩
  rw [← hX]
  obtain ⟨Y, hY⟩ : ∃ Y, Y = X.alloc (.cells (madeCells #[.int .i64 0] n) T) := ⟨_, rfl⟩
  have bY : Below X.heap.size X Y := by rw [hY]; exact nbel_alloc _ _
  have kY : IsBlk T (w.heap.size + 1 + 1) n (fun _ => 0) Y := by
    have := made_is T #[.int .i64 0] X n (by intro i hi; simp at hi; subst hi; rfl) (by simp)
    rw [← hY, sX] at this
    exact ⟨n, _, Nat.le_refl _, this, fun _ _ => rfl⟩
  rw [← hY]
  have d : Below Y.heap.size Y Y.drew := (Below.refl _ _).drew
  exact ⟨nrow_below (nrow_below (nrow_below rA bX) bY) d, (kX.below bY).below d, kY.below d, ⟨by omega, by omega, by omega⟩, ((bA.trans (bX.mono bA.size)).trans (bY.mono (Nat.le_trans bA.size bX.size))).trans (d.mono (Nat.le_trans (Nat.le_trans bA.size bX.size) bY.size))⟩
theorem Still.swap {n : Nat} {w : World} {x y : Nat} {T L : TypeId} {l : List Value} {W : World} (h : Still n w x y T L l W) : Still n w y x T L l W := ⟨h.bx, h.c, h.t, ⟨h.o.2.1, h.o.1, Ne.symm h.o.2.2⟩, h.old⟩
theorem Still.lgo {n : Nat} {w : World} {x y : Nat} {T L : TypeId} {l : List Value} {W : World} (h : Still n w x y T L l W) : LgO T w.heap.size n n n n (some ⟨x, 0, none⟩) (some ⟨y, 0, none⟩) (fun _ => 0) (fun _ => 0) W :=
  ⟨Or.inr ⟨_, rfl, Nat.le_of_lt h.o.1, h.t⟩, Or.inr ⟨_, rfl, Nat.le_of_lt h.o.2.1, h.c⟩, fun k e e' => by cases e; cases e'; exact h.o.2.2 rfl⟩
/-- Two blocks of noughts. -/
structure Two0 (n b : Nat) (V : World) (T : TypeId) (W : World) : Prop where
  t : IsBlk T b n (fun _ => 0) W
  c : IsBlk T (b + 1) n (fun _ => 0) W
  old : Below b V W
theorem two0 (n b : Nat) (V : World) (T : TypeId) (e : V.heap.size = b) : Two0 n b V T (((V.alloc (.cells (madeCells #[.int .i64 0] n) T)).alloc (.cells (madeCells #[.int .i64 0] n) T)).drew) := by
  obtain ⟨X, hX⟩ : ∃ X, X = V.alloc (.cells (madeCells #[.int .i64 0] n) T) := ⟨_, rfl⟩
  have sX : X.heap.size = b + 1 := by rw [hX]; simp [e]
  have bX : Below b V X := by rw [hX, ← e]; exact nbel_alloc _ _
  have kX : IsBlk T b n (fun _ => 0) X := by
    have := made_is T #[.int .i64 0] V n (by intro i hi; simp at hi; subst hi; rfl) (by simp)
    rw [← hX, e] at this
    exact ⟨n, _, Nat.le_refl _, this, fun _ _ => rfl⟩
  rw [← hX]
  obtain ⟨Y, hY⟩ : ∃ Y, Y = X.alloc (.cells (madeCells #[.int .i64 0] n) T) := ⟨_, rfl⟩
  have bY : Below X.heap.size X Y := by rw [hY]; exact nbel_alloc _ _
  have kY : IsBlk T (b + 1) n (fun _ => 0) Y := by
    have := made_is T #[.int .i64 0] X n (by intro i hi; simp at hi; subst hi; rfl) (by simp)
    rw [← hY, sX] at this
    exact ⟨n, _, Nat.le_refl _, this, fun _ _ => rfl⟩
  rw [← hY]
  have d : Below Y.heap.size Y Y.drew := (Below.refl _ _).drew
  exact ⟨(kX.below bY).below d, kY.below d, (bX.trans (bY.mono (by omega))).trans (d.mono (by have := bY.size; omega))⟩
set_option maxRecDepth 100000 in
set_option maxHeartbeats 4000000 in
theorem still_any (n : Nat) (hn : n ≤ 1048576) (w : World) :
    Calls Tryz.prog 44 #[.int .i64 (n : Nat)] w fun e w' => LgEnd w.heap.size 2 ⟨n, fun _ => 0, n, fun _ => 0, false⟩ e w' ∧ Below w.heap.size w w' := by
  have hmk := mk_i64 n hn
  go_enter Tryz.func44, Tryz.ntmps44
  go_wp2_with fail
  go_region
  · have HE := Lib.hid (still_w n w [.slice (some ⟨w.heap.size + 1, 0, none⟩) n n, .slice (some ⟨w.heap.size + 1 + 1, 0, none⟩) n n, .bool false] 2 33)
    go_wp2_with fail
    exact bodyPost_ret (v := .agg #[.slice (some ⟨w.heap.size + 1, 0, none⟩) n n, .slice (some ⟨w.heap.size + 1 + 1, 0, none⟩) n n, .bool false]) (by
      obtain ⟨⟨x0, x1, x2⟩, _⟩ := rowN3 HE.out.bx
      simp only [results, Tryz.results44]
      simp [go_sem, x0, x1, x2]) rfl ⟨⟨_, _, _, _, rfl, HE.out.lgo⟩, HE.out.old⟩
  · have HE := Lib.hid (still_w n w [.slice (some ⟨w.heap.size + 1 + 1, 0, none⟩) n n, .slice (some ⟨w.heap.size + 1, 0, none⟩) n n, .bool false] 2 33).swap
    go_wp2_with fail
    exact bodyPost_ret (v := .agg #[.slice (some ⟨w.heap.size + 1 + 1, 0, none⟩) n n, .slice (some ⟨w.heap.size + 1, 0, none⟩) n n, .bool false]) (by
      obtain ⟨⟨x0, x1, x2⟩, _⟩ := rowN3 HE.out.bx
      simp only [results, Tryz.results44]
      simp [go_sem, x0, x1, x2]) rfl ⟨⟨_, _, _, _, rfl, HE.out.lgo⟩, HE.out.old⟩
set_option maxRecDepth 100000 in
set_option maxHeartbeats 4000000 in
theorem still_blk (n : Nat) (hn : n ≤ 1048576) (w : World) :
    Calls Tryz.prog 44 #[.int .i64 (n : Nat)] w fun e w' => (∃ x y, e = .returned (.agg #[.slice (some ⟨x, 0, none⟩) n n, .slice (some ⟨y, 0, none⟩) n n, .bool false]) ∧ (w.heap.size ≤ x ∧ w.heap.size ≤ y ∧ x ≠ y) ∧ IsBlk 2 x n (fun _ => 0) w' ∧ IsBlk 2 y n (fun _ => 0) w') ∧ Below w.heap.size w w' := by
  have hmk := mk_i64 n hn
  go_enter Tryz.func44, Tryz.ntmps44
  go_wp2_with fail
  go_region
  · have HE := Lib.hid (still_w n w [.slice (some ⟨w.heap.size + 1, 0, none⟩) n n, .slice (some ⟨w.heap.size + 1 + 1, 0, none⟩) n n, .bool false] 2 33)
    go_wp2_with fail
    exact bodyPost_ret (v := .agg #[.slice (some ⟨w.heap.size + 1, 0, none⟩) n n, .slice (some ⟨w.heap.size + 1 + 1, 0, none⟩) n n, .bool false]) (by
      obtain ⟨⟨x0, x1, x2⟩, _⟩ := rowN3 HE.out.bx
      simp only [results, Tryz.results44]
      simp [go_sem, x0, x1, x2]) rfl ⟨⟨_, _, rfl, ⟨Nat.le_of_lt HE.out.o.1, Nat.le_of_lt HE.out.o.2.1, HE.out.o.2.2⟩, HE.out.t, HE.out.c⟩, HE.out.old⟩
  · have HE := Lib.hid (still_w n w [.slice (some ⟨w.heap.size + 1 + 1, 0, none⟩) n n, .slice (some ⟨w.heap.size + 1, 0, none⟩) n n, .bool false] 2 33).swap
    go_wp2_with fail
    exact bodyPost_ret (v := .agg #[.slice (some ⟨w.heap.size + 1 + 1, 0, none⟩) n n, .slice (some ⟨w.heap.size + 1, 0, none⟩) n n, .bool false]) (by
      obtain ⟨⟨x0, x1, x2⟩, _⟩ := rowN3 HE.out.bx
      simp only [results, Tryz.results44]
      simp [go_sem, x0, x1, x2]) rfl ⟨⟨_, _, rfl, ⟨Nat.le_of_lt HE.out.o.1, Nat.le_of_lt HE.out.o.2.1, HE.out.o.2.2⟩, HE.out.t, HE.out.c⟩, HE.out.old⟩
set_option maxRecDepth 100000 in
set_option maxHeartbeats 4000000 in
theorem implStart_any (p : Pg.Prog) (la : Option Addr) (lk : Nat) (fa : Option Addr) (fk : Nat) (wa : Option Addr) (wk : Nat) (w : World) (h : PgAt p la fa wa w) (hs : PgSmall p) :
    Calls Tryz.prog 9 #[pgV p la lk fa fk wa wk] w fun e w' => LgEnd w.heap.size 2 (Cy.start p) e w' ∧ Below w.heap.size w w' := by
  obtain ⟨W, hW⟩ : ∃ W, W = (w.alloc (.cells #[.slice la p.bn lk, .slice fa p.on fk, .slice wa p.nn wk] 27)).alloc (.cells #[.slice none 0 0, .slice none 0 0, .bool false] 33) := ⟨_, rfl⟩
  have R0 : Hid (W.rowIs w.heap.size 27 3 (rowN (pgL p la lk fa fk wa wk))) := by show World.rowIs _ _ _ _ _; rw [hW]; exact nrow_below (rowN_alloc w _ _) (nbel_alloc _ _)
  have Q0 : Hid (W.rowIs (w.heap.size + 1) 33 3 (rowN [.slice none 0 0, .slice none 0 0, .bool false])) := by show World.rowIs _ _ _ _ _; rw [hW]; exact rowN_alloc' (by simp) _ _
  have B0 : Hid (Below w.heap.size w W) := by show Below _ _ _; rw [hW]; exact ((Below.refl _ _).alloc (Nat.le_refl _) _).alloc (by simp) _
  have H := Lib.hid h
  have HS := Lib.hid hs
  have hb1 : p.bn ≤ 1048576 := hs.1.1
  have HW := Lib.hid hW
  clear h hs hW
  obtain ⟨⟨x0, x1, x2⟩, _⟩ := rowN3 R0.out
  rw [HW.out] at x0 x1 x2
  go_enter Tryz.func9, Tryz.ntmps9
  go_wp2_with fail
  rw [← HW.out]
  clear x0 x1 x2 HW
  refine (implPRight_any p la lk fa fk wa wk _ (H.out.below B0.out) HS.out).mono ?_
  rintro e w1 ⟨rfl, hb⟩
  have R1 := Lib.hid (nrow_below R0.out hb)
  have Q1 := Lib.hid (nrow_below Q0.out hb)
  have B1 : Hid (Below w.heap.size w w1) := B0.out.trans (hb.mono B0.out.size)
  clear hb R0 Q0 B0
  obtain ⟨⟨x0, x1, x2⟩, _⟩ := rowN3 R1.out
  obtain ⟨⟨y0, y1, y2⟩, z0, z1, z2⟩ := rowN3 Q1.out
  have hl := Q1.out.lt
  by_cases k : Pg.Right p
  · rw [dB_tt k]
    have HE := Lib.hid (Cy.start_yes k)
    clear k
    go_wp2_with fail
    clear x0 x1 x2 y0 y1 y2 z0 z1 z2 hl
    refine (still_any p.bn hb1 _).mono ?_
    rintro e w2 ⟨⟨a, k, b, l, rfl, hO⟩, hb⟩
    have Q2 := Lib.hid (nrow_below Q1.out hb)
    have B2 : Hid (Below w.heap.size w w2) := B1.out.trans (hb.mono B1.out.size)
    have O2 := Lib.hid hO
    have HL := Lib.hid Q1.out.lt
    obtain ⟨⟨y0, y1, y2⟩, z0, z1, z2⟩ := rowN3 Q2.out
    have hl := Q2.out.lt
    have QP := Lib.hid (rowN_put (rowN_put (rowN_put Q2.out 0 (.slice a p.bn k) (by simp)) 1 (.slice b p.bn l) (by simp)) 2 (.bool false) (by simp))
    clear hb hO Q1 B1
    go_wp2_with fail
    refine bodyPost_ret (v := .agg #[.slice a p.bn k, .slice b p.bn l, .bool false]) (by
      obtain ⟨⟨x0, x1, x2⟩, _⟩ := rowN3 QP.out
      simp only [results, Tryz.results9]
      simp [go_sem, x0, x1, x2]) rfl ⟨?_, ?_⟩
    · rw [HE.out]
      refine ⟨a, k, b, l, rfl, (O2.out.keep fun j e h1 h2 => ?_).low (Nat.le_trans (Nat.le_succ _) (Nat.le_of_lt HL.out))⟩
      have hne : j ≠ w.heap.size + 1 := by have := HL.out; omega
      exact (Below.heap_setCell _ _ _ _ hne).trans ((Below.heap_setCell _ _ _ _ hne).trans (Below.heap_setCell _ _ _ _ hne))
    · exact ((B2.out.setCell (p := ⟨w.heap.size + 1, 0, none⟩) (by show w.heap.size ≤ w.heap.size + 1; omega) _).setCell (p := ⟨w.heap.size + 1, 1, none⟩) (by show w.heap.size ≤ w.heap.size + 1; omega) _).setCell (p := ⟨w.heap.size + 1, 2, none⟩) (by show w.heap.size ≤ w.heap.size + 1; omega) _
  · rw [dB_ff k]
    have HE := Lib.hid (Cy.start_no k)
    clear k
    have QP := Lib.hid (rowN_put (rowN_put (rowN_put Q1.out 0 (.slice none 0 0) (by simp)) 1 (.slice none 0 0) (by simp)) 2 (.bool false) (by simp))
    go_wp2_with fail
    refine bodyPost_ret (v := .agg #[.slice none 0 0, .slice none 0 0, .bool false]) (by
      obtain ⟨⟨x0, x1, x2⟩, _⟩ := rowN3 QP.out
      simp only [results, Tryz.results9]
      simp [go_sem, x0, x1, x2]) rfl ⟨?_, ?_⟩
    · rw [HE.out]; exact LgEnd.nil
    · exact ((B1.out.setCell (p := ⟨w.heap.size + 1, 0, none⟩) (by show w.heap.size ≤ w.heap.size + 1; omega) _).setCell (p := ⟨w.heap.size + 1, 1, none⟩) (by show w.heap.size ≤ w.heap.size + 1; omega) _).setCell (p := ⟨w.heap.size + 1, 2, none⟩) (by show w.heap.size ≤ w.heap.size + 1; omega) _
set_option maxRecDepth 100000 in
set_option maxHeartbeats 4000000 in
theorem specStart_any (p : Pg.Prog) (la : Option Addr) (lk : Nat) (fa : Option Addr) (fk : Nat) (wa : Option Addr) (wk : Nat) (w : World) (h : PgAt p la fa wa w) (hs : PgSmall p) :
    Calls Tryz.prog 41 #[pgV p la lk fa fk wa wk] w fun e w' => LgEnd w.heap.size 2 (Cy.start p) e w' ∧ Below w.heap.size w w' := by
  obtain ⟨W, hW⟩ : ∃ W, W = (w.alloc (.cells #[.slice la p.bn lk, .slice fa p.on fk, .slice wa p.nn wk] 27)).alloc (.cells #[.slice none 0 0, .slice none 0 0, .bool false] 33) := ⟨_, rfl⟩
  have R0 : Hid (W.rowIs w.heap.size 27 3 (rowN (pgL p la lk fa fk wa wk))) := by show World.rowIs _ _ _ _ _; rw [hW]; exact nrow_below (rowN_alloc w _ _) (nbel_alloc _ _)
  have Q0 : Hid (W.rowIs (w.heap.size + 1) 33 3 (rowN [.slice none 0 0, .slice none 0 0, .bool false])) := by show World.rowIs _ _ _ _ _; rw [hW]; exact rowN_alloc' (by simp) _ _
  have B0 : Hid (Below w.heap.size w W) := by show Below _ _ _; rw [hW]; exact ((Below.refl _ _).alloc (Nat.le_refl _) _).alloc (by simp) _
  have H := Lib.hid h
  have HS := Lib.hid hs
  have hb1 : p.bn ≤ 1048576 := hs.1.1
  have HW := Lib.hid hW
  clear h hs hW
  obtain ⟨⟨x0, x1, x2⟩, _⟩ := rowN3 R0.out
  rw [HW.out] at x0 x1 x2
  go_enter Tryz.func41, Tryz.ntmps41
  go_wp2_with fail
  rw [← HW.out]
  clear x0 x1 x2 HW
  refine (specPRight_any p la lk fa fk wa wk _ (H.out.below B0.out) HS.out).mono ?_
  rintro e w1 ⟨rfl, hb⟩
  have R1 := Lib.hid (nrow_below R0.out hb)
  have Q1 := Lib.hid (nrow_below Q0.out hb)
  have B1 : Hid (Below w.heap.size w w1) := B0.out.trans (hb.mono B0.out.size)
  clear hb R0 Q0 B0
  obtain ⟨⟨x0, x1, x2⟩, _⟩ := rowN3 R1.out
  obtain ⟨⟨y0, y1, y2⟩, z0, z1, z2⟩ := rowN3 Q1.out
  have hl := Q1.out.lt
  by_cases k : Pg.Right p
  · rw [dB_tt k]
    have HE := Lib.hid (Cy.start_yes k)
    clear k
    have hmk := mk_i64 p.bn hb1
    have hl0 := R1.out.lt
    go_wp2_with fail
    go_region
    · obtain ⟨V, hV⟩ : ∃ V, V = ((w1.setCell ⟨w.heap.size + 1, 0, none⟩ (.slice (some ⟨w1.heap.size, 0, none⟩) p.bn p.bn)).setCell ⟨w.heap.size + 1, 1, none⟩ (.slice (some ⟨w1.heap.size + 1, 0, none⟩) p.bn p.bn)).setCell ⟨w.heap.size + 1, 2, none⟩ (.bool false) := ⟨_, rfl⟩
      have HV := Lib.hid hV
      have QP : Hid (V.rowIs (w.heap.size + 1) 33 3 (rowN [(.slice (some ⟨w1.heap.size, 0, none⟩) p.bn p.bn), (.slice (some ⟨w1.heap.size + 1, 0, none⟩) p.bn p.bn), .bool false])) := by show World.rowIs _ _ _ _ _; rw [hV]; exact (rowN_put (rowN_put (rowN_put Q1.out 0 (.slice (some ⟨w1.heap.size, 0, none⟩) p.bn p.bn) (by simp)) 1 (.slice (some ⟨w1.heap.size + 1, 0, none⟩) p.bn p.bn) (by simp)) 2 (.bool false) (by simp))
      have BV : Hid (Below w.heap.size w V) := by show Below _ _ _; rw [hV]; exact ((B1.out.setCell (p := ⟨w.heap.size + 1, 0, none⟩) (by show w.heap.size ≤ w.heap.size + 1; omega) _).setCell (p := ⟨w.heap.size + 1, 1, none⟩) (by show w.heap.size ≤ w.heap.size + 1; omega) _).setCell (p := ⟨w.heap.size + 1, 2, none⟩) (by show w.heap.size ≤ w.heap.size + 1; omega) _
      have sV : V.heap.size = w1.heap.size := by rw [hV]; simp
      have TW := Lib.hid (two0 p.bn w1.heap.size V 2 sV)
      rw [← HV.out]
      have HL := Lib.hid hl
      have SV := Lib.hid sV
      clear hV sV hl hl0 hmk x0 x1 x2 y0 y1 y2 z0 z1 z2 HV
      generalize ((V.alloc (.cells (madeCells #[.int .i64 0] p.bn) 2)).alloc (.cells (madeCells #[.int .i64 0] p.bn) 2)).drew = Z at *
      go_wp2_with fail
      have HBV : Below V.heap.size V Z := by rw [SV.out]; exact TW.out.old
      refine bodyPost_ret (v := .agg #[(.slice (some ⟨w1.heap.size, 0, none⟩) p.bn p.bn), (.slice (some ⟨w1.heap.size + 1, 0, none⟩) p.bn p.bn), .bool false]) (by
        obtain ⟨⟨x0, x1, x2⟩, _⟩ := rowN3 (nrow_below QP.out HBV)
        simp only [results, Tryz.results41]
        simp [go_sem, x0, x1, x2]) rfl ⟨?_, BV.out.trans (TW.out.old.mono (by have := B1.out.size; omega))⟩
      rw [HE.out]
      have := B1.out.size
      exact ⟨_, _, _, _, rfl, ⟨Or.inr ⟨_, rfl, by omega, TW.out.t⟩, Or.inr ⟨_, rfl, by omega, TW.out.c⟩, fun k e e' => by have q := e.trans e'.symm; simp at q⟩⟩
    · obtain ⟨V, hV⟩ : ∃ V, V = ((w1.setCell ⟨w.heap.size + 1, 0, none⟩ (.slice (some ⟨w1.heap.size + 1, 0, none⟩) p.bn p.bn)).setCell ⟨w.heap.size + 1, 1, none⟩ (.slice (some ⟨w1.heap.size, 0, none⟩) p.bn p.bn)).setCell ⟨w.heap.size + 1, 2, none⟩ (.bool false) := ⟨_, rfl⟩
      have HV := Lib.hid hV
      have QP : Hid (V.rowIs (w.heap.size + 1) 33 3 (rowN [(.slice (some ⟨w1.heap.size + 1, 0, none⟩) p.bn p.bn), (.slice (some ⟨w1.heap.size, 0, none⟩) p.bn p.bn), .bool false])) := by show World.rowIs _ _ _ _ _; rw [hV]; exact (rowN_put (rowN_put (rowN_put Q1.out 0 (.slice (some ⟨w1.heap.size + 1, 0, none⟩) p.bn p.bn) (by simp)) 1 (.slice (some ⟨w1.heap.size, 0, none⟩) p.bn p.bn) (by simp)) 2 (.bool false) (by simp))
      have BV : Hid (Below w.heap.size w V) := by show Below _ _ _; rw [hV]; exact ((B1.out.setCell (p := ⟨w.heap.size + 1, 0, none⟩) (by show w.heap.size ≤ w.heap.size + 1; omega) _).setCell (p := ⟨w.heap.size + 1, 1, none⟩) (by show w.heap.size ≤ w.heap.size + 1; omega) _).setCell (p := ⟨w.heap.size + 1, 2, none⟩) (by show w.heap.size ≤ w.heap.size + 1; omega) _
      have sV : V.heap.size = w1.heap.size := by rw [hV]; simp
      have TW := Lib.hid (two0 p.bn w1.heap.size V 2 sV)
      rw [← HV.out]
      have HL := Lib.hid hl
      have SV := Lib.hid sV
      clear hV sV hl hl0 hmk x0 x1 x2 y0 y1 y2 z0 z1 z2 HV
      generalize ((V.alloc (.cells (madeCells #[.int .i64 0] p.bn) 2)).alloc (.cells (madeCells #[.int .i64 0] p.bn) 2)).drew = Z at *
      go_wp2_with fail
      have HBV : Below V.heap.size V Z := by rw [SV.out]; exact TW.out.old
      refine bodyPost_ret (v := .agg #[(.slice (some ⟨w1.heap.size + 1, 0, none⟩) p.bn p.bn), (.slice (some ⟨w1.heap.size, 0, none⟩) p.bn p.bn), .bool false]) (by
        obtain ⟨⟨x0, x1, x2⟩, _⟩ := rowN3 (nrow_below QP.out HBV)
        simp only [results, Tryz.results41]
        simp [go_sem, x0, x1, x2]) rfl ⟨?_, BV.out.trans (TW.out.old.mono (by have := B1.out.size; omega))⟩
      rw [HE.out]
      have := B1.out.size
      exact ⟨_, _, _, _, rfl, ⟨Or.inr ⟨_, rfl, by omega, TW.out.c⟩, Or.inr ⟨_, rfl, by omega, TW.out.t⟩, fun k e e' => by have q := e.trans e'.symm; simp at q⟩⟩
  · rw [dB_ff k]
    have HE := Lib.hid (Cy.start_no k)
    clear k
    have QP := Lib.hid (rowN_put (rowN_put (rowN_put Q1.out 0 (.slice none 0 0) (by simp)) 1 (.slice none 0 0) (by simp)) 2 (.bool false) (by simp))
    go_wp2_with fail
    refine bodyPost_ret (v := .agg #[.slice none 0 0, .slice none 0 0, .bool false]) (by
      obtain ⟨⟨x0, x1, x2⟩, _⟩ := rowN3 QP.out
      simp only [results, Tryz.results41]
      simp [go_sem, x0, x1, x2]) rfl ⟨?_, ?_⟩
    · rw [HE.out]; exact LgEnd.nil
    · exact ((B1.out.setCell (p := ⟨w.heap.size + 1, 0, none⟩) (by show w.heap.size ≤ w.heap.size + 1; omega) _).setCell (p := ⟨w.heap.size + 1, 1, none⟩) (by show w.heap.size ≤ w.heap.size + 1; omega) _).setCell (p := ⟨w.heap.size + 1, 2, none⟩) (by show w.heap.size ≤ w.heap.size + 1; omega) _
end Go.Proofs.YtogfjomfhenhfaaGreatDoor
namespace Go.Proofs.YtogfjomfhenhfaaGreatDoor
open Go.RowKit Go.Deep

set_option maxRecDepth 100000 in
set_option maxHeartbeats 2000000 in
theorem call_any (a : Option Addr) (m cap : Nat) (f : Nat → Int) (up : Int) (w : World) (h : IsAt a m f w) (hm : m ≤ 1048576) :
    Calls Tryz.prog 54 #[.slice a m cap, .int .i64 0, .int .i64 up] w fun e w' => e = .returned (.bool (dB (∀ i, i < m → 0 ≤ f i ∧ f i ≤ up))) ∧ w' = w := by
  have H := Lib.hid h
  clear h
  go_enter Tryz.func54, Tryz.ntmps54
  go_wp2_with fail
  go_loopw [7] (fun iv wr => ∃ (i : Nat), i ≤ m ∧ iv = .int .i64 i ∧ wr = w ∧ Hid (∀ j, j < i → 0 ≤ f j ∧ f j ≤ up)) (fun iv _ => m - (intOf iv).toNat)
  case atStart => exact ⟨0, Nat.zero_le _, rfl, rfl, fun j hj => absurd hj (Nat.not_lt_zero _)⟩
  case round =>
    obtain ⟨i, hi, rfl, hw, hP⟩ := hrel
    rw [hw]
    clear hw wr
    by_cases hlt : i < m
    · have hltz : (i : Int) < (m : Int) := by omega
      obtain ⟨b, e, c0⟩ := H.out.at1 hlt
      subst e
      by_cases h4 : f i < 0
      · have HK : Hid (dB (∀ i, i < m → 0 ≤ f i ∧ f i ≤ up) = false) := dB_ff (fun k => by have := (k i hlt).1; omega)
        go_wp2_with fail
        go_ret
        exact ⟨by rw [HK.out]; rfl, rfl⟩
      · by_cases h5 : up < f i
        · have HK : Hid (dB (∀ i, i < m → 0 ≤ f i ∧ f i ≤ up) = false) := dB_ff (fun k => by have := (k i hlt).2; omega)
          go_wp2_with fail
          go_ret
          exact ⟨by rw [HK.out]; rfl, rfl⟩
        · go_wp2_with fail
          go_roundw
          case rel =>
            refine ⟨i + 1, by omega, by go_num, (by first | rfl | trivial), fun j hj => ?_⟩
            by_cases ej : j = i
            · subst ej; exact ⟨by omega, by omega⟩
            · exact hP.out j (by omega)
          case measure => simp [intOf]; omega
    · obtain rfl : i = m := by omega
      have HK : Hid (dB (∀ j, j < i → 0 ≤ f j ∧ f j ≤ up) = true) := dB_tt hP.out
      go_wp2_with fail
      go_ret
      exact ⟨by rw [HK.out]; rfl, rfl⟩
theorem cbit_any (b : Bool) (w : World) : Calls Tryz.prog 67 #[.bool b] w fun e w' => e = .returned (.int .i64 (if b = true then 1 else 0)) ∧ w' = w := by
  cases b
  · go_enter Tryz.func67, Tryz.ntmps67
    go_wp2_with fail
    go_ret
    exact ⟨rfl, rfl⟩
  · go_enter Tryz.func67, Tryz.ntmps67
    go_wp2_with fail
    go_ret
    exact ⟨rfl, rfl⟩
/-- What stands in a function of a program and a Logic: their boxes, the old memory. -/
structure CyW (p : Pg.Prog) (la : Option Addr) (lk : Nat) (fa : Option Addr) (fk : Nat) (wa : Option Addr) (wk : Nat) (x y : Nat) (s : Cy.Lg) (sa : Option Addr) (sk : Nat) (sb : Option Addr) (sl : Nat) (w W : World) : Prop where
  bp : W.rowIs x 27 3 (rowN (pgL p la lk fa fk wa wk))
  bs : W.rowIs y 33 3 (rowN (lgL s sa sk sb sl))
  old : Below w.heap.size w W
theorem CyW.below {p : Pg.Prog} {la : Option Addr} {lk : Nat} {fa : Option Addr} {fk : Nat} {wa : Option Addr} {wk : Nat} {x y : Nat} {s : Cy.Lg} {sa : Option Addr} {sk : Nat} {sb : Option Addr} {sl : Nat} {w W W' : World} (h : CyW p la lk fa fk wa wk x y s sa sk sb sl w W) (hb : Below W.heap.size W W') : CyW p la lk fa fk wa wk x y s sa sk sb sl w W' :=
  ⟨nrow_below h.bp hb, nrow_below h.bs hb, h.old.trans (hb.mono h.old.size)⟩
set_option maxRecDepth 100000 in
set_option maxHeartbeats 8000000 in
theorem specOf_cy (p : Pg.Prog) (la : Option Addr) (lk : Nat) (fa : Option Addr) (fk : Nat) (wa : Option Addr) (wk : Nat) (s : Cy.Lg) (sa : Option Addr) (sk : Nat) (sb : Option Addr) (sl : Nat) (w : World) (h : PgAt p la fa wa w) (hs : PgSmall p) (h2 : LgAt s sa sb w) (hs2 : LgSmall s) :
    Calls Tryz.prog 64 #[pgV p la lk fa fk wa wk, lgV s sa sk sb sl] w fun e w' => e = .returned (.bool (dB (Cy.Of p s))) ∧ Below w.heap.size w w' := by
  obtain ⟨W, hW⟩ : ∃ W, W = (w.alloc (.cells #[.slice la p.bn lk, .slice fa p.on fk, .slice wa p.nn wk] 27)).alloc (.cells (lgA s sa sk sb sl) 33) := ⟨_, rfl⟩
  have S0 : Hid (CyW p la lk fa fk wa wk w.heap.size (w.heap.size + 1) s sa sk sb sl w W) := by
    show CyW _ _ _ _ _ _ _ _ _ _ _ _ _ _ _ _
    rw [hW]
    exact ⟨nrow_below (rowN_alloc w _ _) (nbel_alloc _ _), rowN_alloc' (by simp) (lgL s sa sk sb sl) _, (nbel_alloc _ _).alloc (by simp) _⟩
  have H := Lib.hid h
  have HS := Lib.hid hs
  have H2 := Lib.hid h2
  have hb1 : p.bn ≤ 1048576 := hs.1.1
  have hn1 : s.n ≤ 1048576 := hs2.1
  have hm1 : s.m ≤ 1048576 := hs2.2
  have HW := Lib.hid hW
  clear h hs hW h2 hs2
  obtain ⟨⟨x0, x1, x2⟩, _⟩ := rowN3 S0.out.bp
  rw [HW.out] at x0 x1 x2
  go_enter Tryz.func64, Tryz.ntmps64
  go_wp2_with fail
  rw [← HW.out]
  clear HW x0 x1 x2
  refine (specPRight_any p la lk fa fk wa wk _ (H.out.below S0.out.old) HS.out).mono ?_
  rintro e w1 ⟨rfl, hb⟩
  have S1 := Lib.hid (S0.out.below hb)
  clear hb S0
  by_cases k : Pg.Right p
  · rw [dB_tt k]
    have HR := Lib.hid k
    clear k
    obtain ⟨⟨x0, x1, x2⟩, _⟩ := rowN3 S1.out.bp
    obtain ⟨⟨y0, y1, y2⟩, _⟩ := rowN3 S1.out.bs
    by_cases k1 : s.n = p.bn
    · have d1 : ((s.n : Int) == (p.bn : Int)) = true := by rw [k1]; simp
      have d1' : ((s.n : Int) != (p.bn : Int)) = false := by rw [k1]; simp
      have K1 := Lib.hid k1
      clear k1
      by_cases k2 : s.m = p.bn
      · have d2 : ((s.m : Int) == (p.bn : Int)) = true := by rw [k2]; simp
        have d2' : ((s.m : Int) != (p.bn : Int)) = false := by rw [k2]; simp
        have K2 := Lib.hid k2
        clear k2
        go_wp2_with fail
        refine (call_any sa s.n sk s.T 1 _ (H2.out.t.below S1.out.old) hn1).mono ?_
        rintro e w2 ⟨rfl, hw⟩
        rw [hw]
        clear hw w2
        by_cases k3 : ∀ i, i < s.n → 0 ≤ s.T i ∧ s.T i ≤ 1
        · rw [dB_tt k3]
          have K3 := Lib.hid k3
          clear k3
          go_wp2_with fail
          refine (call_any sb s.m sl s.C 101 _ (H2.out.c.below S1.out.old) hm1).mono ?_
          rintro e w2 ⟨rfl, hw⟩
          rw [hw]
          clear hw w2
          by_cases k4 : ∀ i, i < s.m → 0 ≤ s.C i ∧ s.C i ≤ 101
          · rw [dB_tt k4]
            have K4 := Lib.hid k4
            clear k4
            go_wp2_with fail
            clear x0 x1 x2 y0 y1 y2
            go_loopw [5] (fun iv wr => ∃ (i : Nat), i ≤ p.bn ∧ iv = .int .i64 i ∧ Hid (CyW p la lk fa fk wa wk w.heap.size (w.heap.size + 1) s sa sk sb sl w wr) ∧ Hid (∀ j, j < i → (p.B j).kind ≠ 7 → s.C j = 0)) (fun iv _ => p.bn - (intOf iv).toNat)
            case atStart => exact ⟨0, Nat.zero_le _, rfl, S1, fun j hj => absurd hj (Nat.not_lt_zero _)⟩
            case round =>
              obtain ⟨i, hi, rfl, hS, hP⟩ := hrel
              clear S1
              obtain ⟨⟨x0, x1, x2⟩, _⟩ := rowN3 hS.out.bp
              obtain ⟨⟨y0, y1, y2⟩, _⟩ := rowN3 hS.out.bs
              by_cases hlt : i < p.bn
              · have hltz : (i : Int) < (p.bn : Int) := by omega
                have hlm : i < s.m := by rw [K2.out]; exact hlt
                have hlmz : (i : Int) < (s.m : Int) := by omega
                obtain ⟨b, eb, c0, c1, c2, c3⟩ := (H.out.l.below hS.out.old).at_ hlt
                obtain ⟨g, eg, cg⟩ := (H2.out.c.below hS.out.old).at1 hlm
                subst eb eg
                by_cases q : (p.B i).kind = 7
                · have q' : ((p.B i).kind != 7) = false := by simp [q]
                  have HP2 : Hid (∀ j, j < i + 1 → (p.B j).kind ≠ 7 → s.C j = 0) := fun j hj hk => by
                    by_cases ej : j = i
                    · subst ej; exact absurd q hk
                    · exact hP.out j (by omega) hk
                  clear q hP
                  go_wp2_with fail
                  go_roundw
                  case rel => exact ⟨i + 1, by omega, by go_num, hS, HP2⟩
                  case measure => simp [intOf]; omega
                · have q' : ((p.B i).kind != 7) = true := by simp [q]
                  by_cases q2 : s.C i = 0
                  · have q2' : (s.C i != 0) = false := by simp [q2]
                    have HP2 : Hid (∀ j, j < i + 1 → (p.B j).kind ≠ 7 → s.C j = 0) := fun j hj hk => by
                      by_cases ej : j = i
                      · subst ej; exact q2
                      · exact hP.out j (by omega) hk
                    clear q q2 hP
                    go_wp2_with fail
                    go_roundw
                    case rel => exact ⟨i + 1, by omega, by go_num, hS, HP2⟩
                    case measure => simp [intOf]; omega
                  · have q2' : (s.C i != 0) = true := by simp [q2]
                    have HK : Hid (dB (Cy.Of p s) = false) := dB_ff (fun z => q2 (z.d i hlt q))
                    clear q q2 hP
                    go_wp2_with fail
                    go_ret
                    exact ⟨by rw [HK.out]; rfl, hS.out.old⟩
              · obtain rfl : i = p.bn := by omega
                have HK : Hid (dB (Cy.Of p s) = true) := dB_tt ⟨HR.out, ⟨by rw [K1.out]; exact HR.out.n, by rw [K1.out, K2.out], K3.out, K4.out⟩, K1.out, hP.out⟩
                go_wp2_with fail
                go_ret
                exact ⟨by rw [HK.out]; rfl, hS.out.old⟩
          · rw [dB_ff k4]
            have HK : Hid (dB (Cy.Of p s) = false) := dB_ff (fun q => k4 q.k.c)
            clear k4
            go_wp2_with fail
            go_ret
            exact ⟨by rw [HK.out]; rfl, S1.out.old⟩
        · rw [dB_ff k3]
          have HK : Hid (dB (Cy.Of p s) = false) := dB_ff (fun q => k3 q.k.t)
          clear k3
          go_wp2_with fail
          go_ret
          exact ⟨by rw [HK.out]; rfl, S1.out.old⟩
      · have d2 : ((s.m : Int) == (p.bn : Int)) = false := by simp; omega
        have d2' : ((s.m : Int) != (p.bn : Int)) = true := by simp; omega
        have HK : Hid (dB (Cy.Of p s) = false) := dB_ff (fun q => k2 (q.k.m.trans q.n))
        clear k2
        go_wp2_with fail
        go_ret
        exact ⟨by rw [HK.out]; rfl, S1.out.old⟩
    · have d1 : ((s.n : Int) == (p.bn : Int)) = false := by simp; omega
      have d1' : ((s.n : Int) != (p.bn : Int)) = true := by simp; omega
      have HK : Hid (dB (Cy.Of p s) = false) := dB_ff (fun q => k1 q.n)
      clear k1
      go_wp2_with fail
      go_ret
      exact ⟨by rw [HK.out]; rfl, S1.out.old⟩
  · rw [dB_ff k]
    have HK : Hid (dB (Cy.Of p s) = false) := dB_ff (fun q => k q.r)
    clear k
    go_wp2_with fail
    go_ret
    exact ⟨by rw [HK.out]; rfl, S1.out.old⟩
end Go.Proofs.YtogfjomfhenhfaaGreatDoor
namespace Go.Proofs.YtogfjomfhenhfaaGreatDoor
open Go.RowKit Go.Deep

set_option maxHeartbeats 400000 in
theorem awithin_any (x m : Int) (w : World) :
    Calls Tryz.prog 92 #[.int .i64 x, .int .i64 m] w fun e w' => e = .returned (.bool (decide (0 ≤ x ∧ x ≤ m))) ∧ w' = w := by
  by_cases h1 : 0 ≤ x
  · by_cases h2 : x ≤ m
    · rw [decide_eq_true (show 0 ≤ x ∧ x ≤ m from ⟨h1, h2⟩)]
      go_enter Tryz.func92, Tryz.ntmps92
      go_wp2_with fail
      go_ret
      exact ⟨rfl, rfl⟩
    · rw [decide_eq_false (show ¬ (0 ≤ x ∧ x ≤ m) from fun h => h2 h.2)]
      go_enter Tryz.func92, Tryz.ntmps92
      go_wp2_with fail
      go_ret
      exact ⟨rfl, rfl⟩
  · rw [decide_eq_false (show ¬ (0 ≤ x ∧ x ≤ m) from fun h => h1 h.1)]
    go_enter Tryz.func92, Tryz.ntmps92
    go_wp2_with fail
    go_ret
    exact ⟨rfl, rfl⟩
set_option maxRecDepth 100000 in
set_option maxHeartbeats 1000000 in
theorem allWithin_raw (a : Option Addr) (n cap : Nat) (f : Nat → Int) (m : Int) (w : World) (h : n = 0 ∨ ∃ b, a = some ⟨b, 0, none⟩ ∧ ∀ i, i < n → w.cell? ⟨b, i, none⟩ = some (.int .i64 (f i))) (hn : n ≤ 4194304) :
    Calls Tryz.prog 74 #[.slice a n cap, .int .i64 m] w fun e w' => (∃ b : Bool, e = .returned (.bool b) ∧ (b = true ↔ ∀ i, i < n → 0 ≤ f i ∧ f i ≤ m)) ∧ w' = w := by
  have H := Lib.hid h
  clear h
  go_enter Tryz.func74, Tryz.ntmps74
  go_wp2_with fail
  go_loopw [8] (fun iv wr => ∃ (i : Nat), i ≤ n ∧ iv = .int .i64 i ∧ wr = w ∧ Hid (∀ j, j < i → 0 ≤ f j ∧ f j ≤ m)) (fun iv _ => n - (intOf iv).toNat)
  case atStart => exact ⟨0, Nat.zero_le _, rfl, rfl, fun j hj => absurd hj (Nat.not_lt_zero _)⟩
  case round =>
    obtain ⟨i, hi, rfl, rfl, hP⟩ := hrel
    by_cases hlt : i < n
    · have hltz : (i : Int) < (n : Int) := by omega
      obtain ⟨b, rfl, cc⟩ : ∃ b, a = some ⟨b, 0, none⟩ ∧ ∀ i, i < n → wr.cell? ⟨b, i, none⟩ = some (.int .i64 (f i)) := by
        rcases H.out with h | h
        · omega
        · exact h
      have c0 := cc i hlt
      clear cc
      go_wp2_with fail
      refine (awithin_any _ _ _).mono ?_
      rintro e w1 ⟨rfl, rfl⟩
      by_cases c : 0 ≤ f i ∧ f i ≤ m
      · rw [decide_eq_true c]
        have HC := Lib.hid c
        clear c
        go_wp2_with fail
        go_roundw
        case rel => exact ⟨i + 1, by omega, by go_num, by trivial, fun j hj => by
          by_cases e : j = i
          · subst e; exact HC.out
          · exact hP.out j (by omega)⟩
        case measure => simp [intOf]; omega
      · rw [decide_eq_false c]
        have HE := Lib.hid (show ¬ ∀ i, i < n → 0 ≤ f i ∧ f i ≤ m from fun h => c (h i hlt))
        clear c
        go_wp2_with fail
        go_ret
        exact ⟨⟨_, rfl, ⟨fun h => by simp at h, fun h => absurd h HE.out⟩⟩, rfl⟩
    · obtain rfl : i = n := by omega
      go_wp2_with fail
      go_ret
      exact ⟨⟨_, rfl, ⟨fun _ => hP.out, fun _ => rfl⟩⟩, rfl⟩
end Go.Proofs.YtogfjomfhenhfaaGreatDoor
namespace Go.Proofs.YtogfjomfhenhfaaGreatDoor
open Go.RowKit Go.Deep

theorem within_any (a : Option Addr) (n cap : Nat) (f : Nat → Int) (m : Int) (w : World) (h : IsAt a n f w) (hn : n ≤ 1048576) :
    Calls Tryz.prog 74 #[.slice a n cap, .int .i64 m] w fun e w' => e = .returned (.bool (dB (∀ i, i < n → 0 ≤ f i ∧ f i ≤ m))) ∧ w' = w :=
  (allWithin_raw a n cap f m w h (by omega)).mono (fun _ _ ⟨⟨b, h1, h2⟩, h3⟩ => ⟨by rw [h1]; cases b with
    | true => rw [dB_tt (h2.1 rfl)]
    | false => rw [dB_ff (fun q => by have := h2.2 q; cases this)], h3⟩)
set_option maxRecDepth 100000 in
set_option maxHeartbeats 4000000 in
theorem kept_any (s : Cy.Lg) (sa : Option Addr) (sk : Nat) (sb : Option Addr) (sl : Nat) (w : World) (h2 : LgAt s sa sb w) (hs2 : LgSmall s) :
    Calls Tryz.prog 80 #[lgV s sa sk sb sl] w fun e w' => e = .returned (.bool (dB (Cy.Kept s))) ∧ Below w.heap.size w w' := by
  obtain ⟨W, hW⟩ : ∃ W, W = w.alloc (.cells (lgA s sa sk sb sl) 33) := ⟨_, rfl⟩
  have R0 : Hid (W.rowIs w.heap.size 33 3 (rowN (lgL s sa sk sb sl))) := by show World.rowIs _ _ _ _ _; rw [hW]; exact rowN_alloc w (lgL s sa sk sb sl) _
  have B0 : Hid (Below w.heap.size w W) := by show Below _ _ _; rw [hW]; exact nbel_alloc _ _
  have H2 := Lib.hid h2
  have hn1 : s.n ≤ 1048576 := hs2.1
  have hm1 : s.m ≤ 1048576 := hs2.2
  have HW := Lib.hid hW
  clear hW h2 hs2
  obtain ⟨⟨x0, x1, x2⟩, _⟩ := rowN3 R0.out
  rw [HW.out] at x0 x1 x2
  by_cases k1 : s.n ≤ 100
  · have d1 : (s.n : Int) ≤ 100 := by omega
    by_cases k2 : s.m = s.n
    · have d2 : ((s.m : Int) == (s.n : Int)) = true := by rw [k2]; simp
      have K2 := Lib.hid k2
      clear k2
      go_enter Tryz.func80, Tryz.ntmps80
      go_wp2_with fail
      rw [← HW.out]
      refine (within_any sa s.n sk s.T 1 _ (H2.out.t.below B0.out) hn1).mono ?_
      rintro e w2 ⟨rfl, hw⟩
      rw [hw]
      clear hw w2
      by_cases k3 : ∀ i, i < s.n → 0 ≤ s.T i ∧ s.T i ≤ 1
      · rw [dB_tt k3]
        have K3 := Lib.hid k3
        clear k3 x0 x1 x2
        obtain ⟨⟨x0, x1, x2⟩, _⟩ := rowN3 R0.out
        go_wp2_with fail
        refine (within_any sb s.m sl s.C 101 _ (H2.out.c.below B0.out) hm1).mono ?_
        rintro e w2 ⟨rfl, hw⟩
        rw [hw]
        clear hw w2
        have HK : Hid (dB (∀ i, i < s.m → 0 ≤ s.C i ∧ s.C i ≤ 101) = dB (Cy.Kept s)) := dB_congr ⟨fun q => ⟨k1, K2.out, K3.out, q⟩, fun q => q.c⟩
        go_wp2_with fail
        go_ret
        exact ⟨by rw [← HK.out]; rfl, B0.out⟩
      · rw [dB_ff k3]
        have HK : Hid (dB (Cy.Kept s) = false) := dB_ff (fun q => k3 q.t)
        clear k3
        go_wp2_with fail
        go_ret
        exact ⟨by rw [HK.out]; rfl, B0.out⟩
    · have d2 : ((s.m : Int) == (s.n : Int)) = false := by simp; omega
      have HK : Hid (dB (Cy.Kept s) = false) := dB_ff (fun q => k2 q.m)
      clear k2
      go_enter Tryz.func80, Tryz.ntmps80
      go_wp2_with fail
      rw [← HW.out]
      go_ret
      exact ⟨by rw [HK.out]; rfl, B0.out⟩
  · have d1 : ¬ (s.n : Int) ≤ 100 := by omega
    have HK : Hid (dB (Cy.Kept s) = false) := dB_ff (fun q => k1 q.n)
    clear k1
    go_enter Tryz.func80, Tryz.ntmps80
    go_wp2_with fail
    rw [← HW.out]
    go_ret
    exact ⟨by rw [HK.out]; rfl, B0.out⟩
set_option maxRecDepth 100000 in
set_option maxHeartbeats 8000000 in
theorem implOf_cy (p : Pg.Prog) (la : Option Addr) (lk : Nat) (fa : Option Addr) (fk : Nat) (wa : Option Addr) (wk : Nat) (s : Cy.Lg) (sa : Option Addr) (sk : Nat) (sb : Option Addr) (sl : Nat) (w : World) (h : PgAt p la fa wa w) (hs : PgSmall p) (h2 : LgAt s sa sb w) (hs2 : LgSmall s) :
    Calls Tryz.prog 72 #[lgV s sa sk sb sl, pgV p la lk fa fk wa wk] w fun e w' => e = .returned (.bool (dB (Cy.Of p s))) ∧ Below w.heap.size w w' := by
  obtain ⟨W, hW⟩ : ∃ W, W = (w.alloc (.cells (lgA s sa sk sb sl) 33)).alloc (.cells #[.slice la p.bn lk, .slice fa p.on fk, .slice wa p.nn wk] 27) := ⟨_, rfl⟩
  have S0 : Hid (CyW p la lk fa fk wa wk (w.heap.size + 1) w.heap.size s sa sk sb sl w W) := by
    show CyW _ _ _ _ _ _ _ _ _ _ _ _ _ _ _ _
    rw [hW]
    exact ⟨rowN_alloc' (by simp) (pgL p la lk fa fk wa wk) _, nrow_below (rowN_alloc w (lgL s sa sk sb sl) _) (nbel_alloc _ _), (nbel_alloc _ _).alloc (by simp) _⟩
  have H := Lib.hid h
  have HS := Lib.hid hs
  have H2 := Lib.hid h2
  have HS2 := Lib.hid hs2
  have hb1 : p.bn ≤ 1048576 := hs.1.1
  have HW := Lib.hid hW
  clear h hs hW h2 hs2
  obtain ⟨⟨x0, x1, x2⟩, _⟩ := rowN3 S0.out.bp
  rw [HW.out] at x0 x1 x2
  go_enter Tryz.func72, Tryz.ntmps72
  go_wp2_with fail
  rw [← HW.out]
  clear HW x0 x1 x2
  refine (implPRight_any p la lk fa fk wa wk _ (H.out.below S0.out.old) HS.out).mono ?_
  rintro e w1 ⟨rfl, hb⟩
  have S1 := Lib.hid (S0.out.below hb)
  clear hb S0
  by_cases k : Pg.Right p
  · rw [dB_tt k]
    have HR := Lib.hid k
    clear k
    obtain ⟨⟨y0, y1, y2⟩, _⟩ := rowN3 S1.out.bs
    go_wp2_with fail
    clear y0 y1 y2
    refine (kept_any s sa sk sb sl _ (H2.out.below S1.out.old) HS2.out).mono ?_
    rintro e w2 ⟨rfl, hb⟩
    have S2 := Lib.hid (S1.out.below hb)
    clear hb S1
    by_cases k : Cy.Kept s
    · rw [dB_tt k]
      have HKP := Lib.hid k
      clear k
      obtain ⟨⟨x0, x1, x2⟩, _⟩ := rowN3 S2.out.bp
      obtain ⟨⟨y0, y1, y2⟩, _⟩ := rowN3 S2.out.bs
      by_cases k1 : s.n = p.bn
      · have d1' : ((s.n : Int) != (p.bn : Int)) = false := by rw [k1]; simp
        have K1 := Lib.hid k1
        clear k1
        go_wp2_with fail
        clear x0 x1 x2 y0 y1 y2 d1'
        go_loopw [27] (fun iv wr => ∃ (i : Nat), i ≤ p.bn ∧ iv = .int .i64 i ∧ Hid (CyW p la lk fa fk wa wk (w.heap.size + 1) w.heap.size s sa sk sb sl w wr) ∧ Hid (∀ j, j < i → (p.B j).kind ≠ 7 → s.C j = 0)) (fun iv _ => p.bn - (intOf iv).toNat)
        case atStart => exact ⟨0, Nat.zero_le _, rfl, S2, fun j hj => absurd hj (Nat.not_lt_zero _)⟩
        case round =>
          obtain ⟨i, hi, rfl, hS, hP⟩ := hrel
          clear S2
          by_cases hlt : i < p.bn
          · have hltz : (i : Int) < (p.bn : Int) := by omega
            have hlm : i < s.m := by rw [HKP.out.m, K1.out]; exact hlt
            have hlmz : (i : Int) < (s.m : Int) := by omega
            obtain ⟨⟨y0, y1, y2⟩, _⟩ := rowN3 hS.out.bs
            obtain ⟨b, eb, c0, c1, c2, c3⟩ := (H.out.l.below hS.out.old).at_ hlt
            obtain ⟨g, eg, cg⟩ := (H2.out.c.below hS.out.old).at1 hlm
            subst eb eg
            have l0 := hS.out.bs.lt
            have l1 := World.block_lt_of_cell? _ _ cg
            by_cases q : (p.B i).kind = 7
            · have q' : ((p.B i).kind != 7) = false := by simp [q]
              have HP2 : Hid (∀ j, j < i + 1 → (p.B j).kind ≠ 7 → s.C j = 0) := fun j hj hk => by
                by_cases ej : j = i
                · subst ej; exact absurd q hk
                · exact hP.out j (by omega) hk
              clear q hP
              go_wp2_with fail
              go_roundw
              case rel => exact ⟨i + 1, by omega, by go_num, hS.out.below (nbel_alloc _ _), HP2⟩
              case measure => simp [intOf]; omega
            · have q' : ((p.B i).kind != 7) = true := by simp [q]
              by_cases q2 : s.C i = 0
              · have q2' : (s.C i != 0) = false := by simp [q2]
                have HP2 : Hid (∀ j, j < i + 1 → (p.B j).kind ≠ 7 → s.C j = 0) := fun j hj hk => by
                  by_cases ej : j = i
                  · subst ej; exact q2
                  · exact hP.out j (by omega) hk
                clear q q2 hP
                go_wp2_with fail
                go_roundw
                case rel => exact ⟨i + 1, by omega, by go_num, hS.out.below (nbel_alloc _ _), HP2⟩
                case measure => simp [intOf]; omega
              · have q2' : (s.C i != 0) = true := by simp [q2]
                have HK : Hid (dB (Cy.Of p s) = false) := dB_ff (fun z => q2 (z.d i hlt q))
                clear q q2 hP
                go_wp2_with fail
                go_ret
                exact ⟨by rw [HK.out]; rfl, hS.out.old.alloc hS.out.old.size _⟩
          · obtain rfl : i = p.bn := by omega
            have HK : Hid (dB (Cy.Of p s) = true) := dB_tt ⟨HR.out, HKP.out, K1.out, hP.out⟩
            go_wp2_with fail
            go_ret
            exact ⟨by rw [HK.out]; rfl, hS.out.old⟩
      · have d1' : ((s.n : Int) != (p.bn : Int)) = true := by simp; omega
        have d1'' : ((p.bn : Int) != (s.n : Int)) = true := by simp; omega
        have HK : Hid (dB (Cy.Of p s) = false) := dB_ff (fun q => k1 q.n)
        clear k1
        go_wp2_with fail
        go_ret
        exact ⟨by rw [HK.out]; rfl, S2.out.old⟩
    · rw [dB_ff k]
      have HK : Hid (dB (Cy.Of p s) = false) := dB_ff (fun q => k q.k)
      clear k
      go_wp2_with fail
      go_ret
      exact ⟨by rw [HK.out]; rfl, S2.out.old⟩
  · rw [dB_ff k]
    have HK : Hid (dB (Cy.Of p s) = false) := dB_ff (fun q => k q.r)
    clear k
    go_wp2_with fail
    go_ret
    exact ⟨by rw [HK.out]; rfl, S1.out.old⟩
end Go.Proofs.YtogfjomfhenhfaaGreatDoor
namespace Go.Proofs.YtogfjomfhenhfaaGreatDoor
open Go.RowKit Go.Deep

/-- It hangs on the blocks of a range alone. -/
def Stab (lo hi : Nat) (P : World → Prop) : Prop := ∀ W W', P W → (∀ k, lo ≤ k → k < hi → k < W.heap.size → W'.heap[k]? = W.heap[k]?) → P W'
structure Fact (lo hi : Nat) (P : World → Prop) (W : World) : Prop where
  p : P W
  st : Stab lo hi P
  le : lo ≤ hi ∧ hi ≤ W.heap.size
theorem Fact.below {lo hi : Nat} {P : World → Prop} {W W' : World} (h : Fact lo hi P W) (hb : Below W.heap.size W W') : Fact lo hi P W' := ⟨h.st _ _ h.p (fun k _ _ hk => hb.block k hk), h.st, h.le.1, Nat.le_trans h.le.2 hb.size⟩
/-- What changed lies within a range (or is new). -/
structure Rng (lo hi : Nat) (W W' : World) : Prop where
  os : W'.os = W.os
  tape : W'.tape = W.tape
  output : W'.output = W.output
  size : W.heap.size ≤ W'.heap.size
  block : ∀ k, k < W.heap.size → ¬ (lo ≤ k ∧ k < hi) → W'.heap[k]? = W.heap[k]?
theorem Fact.out {lo hi a b : Nat} {P : World → Prop} {W W' : World} (h : Fact lo hi P W) (r : Rng a b W W') (hd : hi ≤ a ∨ b ≤ lo) : Fact lo hi P W' :=
  ⟨h.st _ _ h.p (fun k h1 h2 hk => r.block k hk (fun q => by omega)), h.st, h.le.1, Nat.le_trans h.le.2 r.size⟩
theorem Rng.old {B a b : Nat} {w W W' : World} (r : Rng a b W W') (h : Below B w W) (hB : B ≤ a) (hw : B ≤ W.heap.size) : Below B w W' :=
  h.trans ⟨r.os, r.tape, r.output, r.size, fun k hk => r.block k (Nat.lt_of_lt_of_le hk hw) (fun q => by omega)⟩
theorem Rng.of_only {g lo hi : Nat} {W W' : World} (h : Only g W W') (hg : lo ≤ g ∧ g < hi) : Rng lo hi W W' := ⟨h.os, h.tape, h.output, h.size, fun k hk hn => h.block k hk (fun e => hn (by omega))⟩
/-- A row is such a fact. -/
theorem stab_row {lo hi s n : Nat} {T : TypeId} {F : Nat → Value} (h : lo ≤ s ∧ s < hi) : Stab lo hi (fun V => V.rowIs s T n F) := fun _ _ a hk => a.of_block (hk _ h.1 h.2 a.lt)
theorem fact_row {W : World} {lo s n : Nat} {T : TypeId} {F : Nat → Value} (h : W.rowIs s T n F) (hl : lo ≤ s) : Fact lo W.heap.size (fun V => V.rowIs s T n F) W := ⟨h, stab_row ⟨hl, h.lt⟩, Nat.le_trans hl (Nat.le_of_lt h.lt), Nat.le_refl _⟩
theorem Stab.and {lo hi : Nat} {P Q : World → Prop} (h : Stab lo hi P) (k : Stab lo hi Q) : Stab lo hi (fun V => P V ∧ Q V) := fun W W' a hk => ⟨h W W' a.1 hk, k W W' a.2 hk⟩
theorem stab_blk {lo hi g n : Nat} {T : TypeId} {f : Nat → Int} (h : lo ≤ g ∧ g < hi) : Stab lo hi (fun V => IsBlk T g n f V) := fun _ _ a hk => a.block (hk _ h.1 h.2 a.lt)
theorem fact_blk {W : World} {lo g n : Nat} {T : TypeId} {f : Nat → Int} (h : IsBlk T g n f W) (hl : lo ≤ g) : Fact lo W.heap.size (fun V => IsBlk T g n f V) W := ⟨h, stab_blk ⟨hl, h.lt⟩, Nat.le_trans hl (Nat.le_of_lt h.lt), Nat.le_refl _⟩
theorem Fact.with {lo hi : Nat} {P Q : World → Prop} {W : World} (h : Fact lo hi P W) (k : Fact lo hi Q W) : Fact lo hi (fun V => P V ∧ Q V) W := ⟨⟨h.p, k.p⟩, h.st.and k.st, h.le⟩
/-- Counted marks are no negative number. -/
theorem mark_pos (M : Nat) : ¬ (M : Int) < 0 := by omega
end Go.Proofs.YtogfjomfhenhfaaGreatDoor
namespace Go.Proofs.YtogfjomfhenhfaaGreatDoor
open Go.RowKit

/-- The digits of a number ahead of others. -/
def markD : Nat → List UInt8 → List UInt8
  | 0, out => out
  | k + 1, out => markD ((k + 1) / 10) (UInt8.ofNat (48 + (k + 1) % 10) :: out)
decreasing_by omega
theorem markD_pos (k : Nat) (out : List UInt8) (h : 0 < k) : markD k out = markD (k / 10) (UInt8.ofNat (48 + k % 10) :: out) := by
  obtain ⟨m, rfl⟩ : ∃ m, k = m + 1 := ⟨k - 1, by omega⟩
  rw [markD]
/-- What a place is marked with. -/
def markB (k : Nat) : ByteArray := if k = 0 then ⟨#[109, 48]⟩ else ⟨(109 :: markD k []).toArray⟩

end Go.Proofs.YtogfjomfhenhfaaGreatDoor
namespace Go.Proofs.YtogfjomfhenhfaaGreatDoor
open Go.RowKit Go.Deep



end Go.Proofs.YtogfjomfhenhfaaGreatDoor
namespace Go.Proofs.YtogfjomfhenhfaaGreatDoor
open Go.RowKit Go.Deep

end Go.Proofs.YtogfjomfhenhfaaGreatDoor
namespace Go.Proofs.YtogfjomfhenhfaaGreatDoor
open Go.RowKit Go.Deep

theorem stab_cyo {T : TypeId} {B N c lo hi : Nat} {a : Option Addr} {f : Nat → Int} (hl : lo ≤ B) (hh : ∀ k, a = some ⟨k, 0, none⟩ → k < hi) : Stab lo hi (fun V => CyO T B N a c f V) := fun _ _ h hk => h.keep (fun k e h1 h2 => hk k (Nat.le_trans hl h1) (hh k e) h2)
theorem fact_cyo {T : TypeId} {B N c lo : Nat} {a : Option Addr} {f : Nat → Int} {W : World} (h : CyO T B N a c f W) (hl : lo ≤ B) (hs : lo ≤ W.heap.size) : Fact lo W.heap.size (fun V => CyO T B N a c f V) W := ⟨h, stab_cyo hl (fun _ e => (h.lt e).2), hs, Nat.le_refl _⟩
theorem stab_lgo {T : TypeId} {B n k m l lo hi : Nat} {a b : Option Addr} {f g : Nat → Int} (hl : lo ≤ B) (hh : ∀ j, a = some ⟨j, 0, none⟩ ∨ b = some ⟨j, 0, none⟩ → j < hi) : Stab lo hi (fun V => LgO T B n k m l a b f g V) := fun _ _ h hk => h.keep (fun j e h1 h2 => hk j (Nat.le_trans hl h1) (hh j e) h2)
theorem fact_lgo {T : TypeId} {B n k m l lo : Nat} {a b : Option Addr} {f g : Nat → Int} {W : World} (h : LgO T B n k m l a b f g W) (hl : lo ≤ B) (hs : lo ≤ W.heap.size) : Fact lo W.heap.size (fun V => LgO T B n k m l a b f g V) W := ⟨h, stab_lgo hl (fun _ e => (h.lt e).2), hs, Nat.le_refl _⟩
theorem stab_coo {T : TypeId} {B n k m l p q lo hi : Nat} {a b c : Option Addr} {f g h' : Nat → Int} (hl : lo ≤ B) (hh : ∀ j, a = some ⟨j, 0, none⟩ ∨ b = some ⟨j, 0, none⟩ ∨ c = some ⟨j, 0, none⟩ → j < hi) : Stab lo hi (fun V => CoO T B n k m l p q a b c f g h' V) := fun _ _ h hk => h.keep (fun j e h1 h2 => hk j (Nat.le_trans hl h1) (hh j e) h2)
theorem fact_coo {T : TypeId} {B n k m l p q lo : Nat} {a b c : Option Addr} {f g h' : Nat → Int} {W : World} (h : CoO T B n k m l p q a b c f g h' W) (hl : lo ≤ B) (hs : lo ≤ W.heap.size) : Fact lo W.heap.size (fun V => CoO T B n k m l p q a b c f g h' V) W := ⟨h, stab_coo hl (fun _ e => (h.lt e).2), hs, Nat.le_refl _⟩
theorem rng_a {l : List (Option Addr)} {lo hi : Nat} {V W' : World} (ho : OnlyA l V W') (h : ∀ a j, a ∈ l → a = some ⟨j, 0, none⟩ → lo ≤ j ∧ j < hi) : Rng lo hi V W' :=
  ⟨ho.os, ho.tape, ho.output, ho.size, fun k hk hn => ho.block k hk (fun a ha e => hn (h a k ha e))⟩
theorem row_a {l : List (Option Addr)} {V W' : World} {s n : Nat} {T : TypeId} {F : Nat → Value} (ho : OnlyA l V W') (hr : V.rowIs s T n F) (hne : ∀ a, a ∈ l → a ≠ some ⟨s, 0, none⟩) : W'.rowIs s T n F := hr.of_block (ho.block _ hr.lt hne)
theorem CoO.neR {T S : TypeId} {B n k m l p q g N : Nat} {a b c : Option Addr} {f f' h : Nat → Int} {W : World} {F : Nat → Value} (x : CoO T B n k m l p q a b c f f' h W) (hr : W.rowIs g S N F) (hT : T ≠ S) : ¬ (a = some ⟨g, 0, none⟩ ∨ b = some ⟨g, 0, none⟩ ∨ c = some ⟨g, 0, none⟩) := by
  rintro (e | e | e)
  · exact x.s.t.ne hr hT e
  · exact x.s.c.ne hr hT e
  · exact x.o.ne hr hT e
theorem cyput5 {W : World} {g : Nat} {T : TypeId} {l : List Value} (h : W.rowIs g T 5 (rowN l)) (hl : l.length = 5) (v0 v1 v2 v3 v4 : Value) : World.rowIs (((((W.setCell ⟨g, 0, none⟩ v0).setCell ⟨g, 1, none⟩ v1).setCell ⟨g, 2, none⟩ v2).setCell ⟨g, 3, none⟩ v3).setCell ⟨g, 4, none⟩ v4) g T 5 (rowN [v0, v1, v2, v3, v4]) := by
  match l, hl with
  | [a, b, c, d, e], _ => exact rowN_put (rowN_put (rowN_put (rowN_put (rowN_put h 0 v0 (by simp)) 1 v1 (by simp)) 2 v2 (by simp)) 3 v3 (by simp)) 4 v4 (by simp)
theorem cyblk5 {W : World} {g k : Nat} (h : k ≠ g) (v0 v1 v2 v3 v4 : Value) : (World.heap (((((W.setCell ⟨g, 0, none⟩ v0).setCell ⟨g, 1, none⟩ v1).setCell ⟨g, 2, none⟩ v2).setCell ⟨g, 3, none⟩ v3).setCell ⟨g, 4, none⟩ v4))[k]? = W.heap[k]? := (cyhs _ _ _ h 4 v4).trans ((cyhs _ _ _ h 3 v3).trans ((cyhs _ _ _ h 2 v2).trans ((cyhs _ _ _ h 1 v1).trans (cyhs _ _ _ h 0 v0))))
theorem cybel5 {B g : Nat} {W0 W : World} (h : Below B W0 W) (hg : B ≤ g) (v0 v1 v2 v3 v4 : Value) : Below B W0 (((((W.setCell ⟨g, 0, none⟩ v0).setCell ⟨g, 1, none⟩ v1).setCell ⟨g, 2, none⟩ v2).setCell ⟨g, 3, none⟩ v3).setCell ⟨g, 4, none⟩ v4) := (((((h.setCell (p := ⟨g, 0, none⟩) hg v0).setCell (p := ⟨g, 1, none⟩) hg v1).setCell (p := ⟨g, 2, none⟩) hg v2).setCell (p := ⟨g, 3, none⟩) hg v3).setCell (p := ⟨g, 4, none⟩) hg v4)
theorem ints_conv (a : Option Addr) (n cap : Nat) (f : Nat → Int) (w : World) (h : IsIn a n f w) (hn : n ≤ 1048576) :
    Calls Tryz.prog 26 #[.slice a n cap] w fun e w' => (∃ g, e = .returned (.slice (some ⟨g, 0, none⟩) n n) ∧ w.heap.size ≤ g ∧ IsBlk 2 g n f w') ∧ Below w.heap.size w w' :=
  (ntoInt64S_any a n cap f w h hn).mono (fun _ _ ⟨⟨h1, h2⟩, h3⟩ => ⟨⟨_, h1, Nat.le_refl _, h2⟩, h3⟩)
theorem ops_conv (a : Option Addr) (n cap : Nat) (f : Nat → Int) (w : World) (h : IsIn a (n * 3) f w) (hn : n ≤ 1048576) :
    Calls Tryz.prog 24 #[.slice a n cap] w fun e w' => (∃ g, e = .returned (.slice (some ⟨g, 0, none⟩) n n) ∧ w.heap.size ≤ g ∧ IsBlk 87 g (n * 3) f w') ∧ Below w.heap.size w w' :=
  (ntoOpS_any a n cap f w h hn).mono (fun _ _ ⟨⟨h1, h2⟩, h3⟩ => ⟨⟨_, h1, Nat.le_refl _, h2⟩, h3⟩)
theorem markOps_any {B N c k : Nat} {a : Option Addr} {f : Nat → Int} (w : World) (h : CyO 87 B (N * 3) a c f w) (hn : N ≤ 1048576) (hk : k ≤ 1073741824) :
    Calls Tryz.prog 31 #[.slice a N c, .int .i64 (k : Nat)] w fun e w' => e = .returned (.int .i64 ((k + N * 3 : Nat) : Int)) ∧ CyO 87 B (N * 3) a c (mk1 k) w' ∧ OnlyA [a] w w' := by
  rcases h with ⟨rfl, h0, rfl⟩ | ⟨g, rfl, h1, h2⟩
  · obtain rfl : N = 0 := by omega
    exact (nmarkOpS_nil k w).mono (fun e w' ⟨he, hw⟩ => ⟨he, Or.inl ⟨rfl, rfl, rfl⟩, by rw [hw]; exact ⟨rfl, rfl, rfl, Nat.le_refl _, fun _ _ _ => rfl⟩⟩)
  · exact (nmarkOpS_any g N c k f w h2 hn hk).mono (fun e w' ⟨he, hi, ho⟩ => ⟨he, Or.inr ⟨g, rfl, h1, hi⟩, ho.os, ho.tape, ho.output, ho.size, fun j hj hne => ho.block j hj (fun e => hne (some ⟨g, 0, none⟩) (by simp) (by rw [e]))⟩)
end Go.Proofs.YtogfjomfhenhfaaGreatDoor
namespace Go.Proofs.YtogfjomfhenhfaaGreatDoor
open Go.RowKit Go.Deep

section
variable {p : Pg.Prog} {la : Option Addr} {lk : Nat} {fa : Option Addr} {fk : Nat} {wa : Option Addr} {wk : Nat} {s : Cy.Lg} {sa : Option Addr} {sk : Nat} {sb : Option Addr} {sl : Nat} {n nb tg cg : Nat} {T C : Nat → Int} {fl : Bool} {w W W' : World}
/-- The boxes of the program and the Logic, the answer's box, the next Logic's box, its truths, its counts. -/
structure CyL (p : Pg.Prog) (la : Option Addr) (lk : Nat) (fa : Option Addr) (fk : Nat) (wa : Option Addr) (wk : Nat) (s : Cy.Lg) (sa : Option Addr) (sk : Nat) (sb : Option Addr) (sl : Nat) (n nb tg cg : Nat) (T C : Nat → Int) (fl : Bool) (w W : World) : Prop where
  a : CyW p la lk fa fk wa wk w.heap.size (w.heap.size + 1) s sa sk sb sl w W
  rs : W.rowIs (w.heap.size + 1 + 1) 38 5 (rowN [.slice none 0 0, .slice none 0 0, .bool false, .slice none 0 0, .int .i64 0])
  bx : W.rowIs nb 33 3 (rowN [.slice (some ⟨tg, 0, none⟩) n n, .slice (some ⟨cg, 0, none⟩) n n, .bool fl])
  t : IsBlk 2 tg n T W
  c : IsBlk 2 cg n C W
  o : tg ≠ cg ∧ w.heap.size + 1 + 1 < tg ∧ w.heap.size + 1 + 1 < cg ∧ w.heap.size + 1 + 1 < nb
theorem CyL.below (h : CyL p la lk fa fk wa wk s sa sk sb sl n nb tg cg T C fl w W) (hb : Below W.heap.size W W') : CyL p la lk fa fk wa wk s sa sk sb sl n nb tg cg T C fl w W' :=
  ⟨h.a.below hb, nrow_below h.rs hb, nrow_below h.bx hb, h.t.below hb, h.c.below hb, h.o⟩
theorem isblk_ne {S R : TypeId} {g k N m : Nat} {f : Nat → Int} {F : Nat → Value} {W : World} (h : IsBlk S g N f W) (hr : W.rowIs k R m F) (hT : S ≠ R) : k ≠ g := by
  rintro rfl
  obtain ⟨m', F', _, ⟨c1, q1, _⟩, _⟩ := h
  obtain ⟨c2, q2, _⟩ := hr
  rw [q1] at q2
  simp at q2
  exact hT q2.2
theorem CyL.putT (h : CyL p la lk fa fk wa wk s sa sk sb sl n nb tg cg T C fl w W) (i : Nat) (x : Int) : CyL p la lk fa fk wa wk s sa sk sb sl n nb tg cg (updI T i x) C fl w (W.setCell ⟨tg, i, none⟩ (.int .i64 x)) :=
  ⟨⟨nrow_set h.a.bp (p := ⟨tg, i, none⟩) (isblk_ne h.t h.a.bp (by decide)) _, nrow_set h.a.bs (p := ⟨tg, i, none⟩) (isblk_ne h.t h.a.bs (by decide)) _, h.a.old.setCell (p := ⟨tg, i, none⟩) (by show _ ≤ tg; have := h.o; omega) _⟩, nrow_set h.rs (p := ⟨tg, i, none⟩) (isblk_ne h.t h.rs (by decide)) _, nrow_set h.bx (p := ⟨tg, i, none⟩) (isblk_ne h.t h.bx (by decide)) _, h.t.set i x, h.c.block (cyhs _ _ _ (Ne.symm h.o.1) _ _), h.o⟩
theorem CyL.putC (h : CyL p la lk fa fk wa wk s sa sk sb sl n nb tg cg T C fl w W) (i : Nat) (x : Int) : CyL p la lk fa fk wa wk s sa sk sb sl n nb tg cg T (updI C i x) fl w (W.setCell ⟨cg, i, none⟩ (.int .i64 x)) :=
  ⟨⟨nrow_set h.a.bp (p := ⟨cg, i, none⟩) (isblk_ne h.c h.a.bp (by decide)) _, nrow_set h.a.bs (p := ⟨cg, i, none⟩) (isblk_ne h.c h.a.bs (by decide)) _, h.a.old.setCell (p := ⟨cg, i, none⟩) (by show _ ≤ cg; have := h.o; omega) _⟩, nrow_set h.rs (p := ⟨cg, i, none⟩) (isblk_ne h.c h.rs (by decide)) _, nrow_set h.bx (p := ⟨cg, i, none⟩) (isblk_ne h.c h.bx (by decide)) _, h.t.block (cyhs _ _ _ h.o.1 _ _), h.c.set i x, h.o⟩
theorem CyL.fall (h : CyL p la lk fa fk wa wk s sa sk sb sl n nb tg cg T C fl w W) : CyL p la lk fa fk wa wk s sa sk sb sl n nb tg cg T C true w (W.setCell ⟨nb, 2, none⟩ (.bool true)) :=
  ⟨⟨nrow_set h.a.bp (p := ⟨nb, 2, none⟩) (by show w.heap.size ≠ nb; have := h.o; omega) _, nrow_set h.a.bs (p := ⟨nb, 2, none⟩) (by show w.heap.size + 1 ≠ nb; have := h.o; omega) _, h.a.old.setCell (p := ⟨nb, 2, none⟩) (by show _ ≤ nb; have := h.o; omega) _⟩, nrow_set h.rs (p := ⟨nb, 2, none⟩) (by show w.heap.size + 1 + 1 ≠ nb; have := h.o; omega) _, rowN_put h.bx 2 (.bool true) (by simp), h.t.block (cyhs _ _ _ (Ne.symm (isblk_ne h.t h.bx (by decide))) _ _), h.c.block (cyhs _ _ _ (Ne.symm (isblk_ne h.c h.bx (by decide))) _ _), h.o⟩
/-- Three blocks, one behind the other. -/
theorem three_heap (V : World) (o0 o1 o2 : Obj) : Below V.heap.size V ((((V.alloc o0).alloc o1).alloc o2).drew) ∧ ((((V.alloc o0).alloc o1).alloc o2).drew).heap[V.heap.size]? = some o0 ∧ ((((V.alloc o0).alloc o1).alloc o2).drew).heap[V.heap.size + 1]? = some o1 ∧ ((((V.alloc o0).alloc o1).alloc o2).drew).heap[V.heap.size + 1 + 1]? = some o2 := by
  have e1 : (V.alloc o0).heap.size = V.heap.size + 1 := by simp
  have e2 : ((V.alloc o0).alloc o1).heap.size = V.heap.size + 1 + 1 := by simp
  refine ⟨(((nbel_alloc _ _).alloc (by simp) _).alloc (by simp; omega) _).drew, ?_, ?_, ?_⟩
  · show (((V.alloc o0).alloc o1).alloc o2).heap[V.heap.size]? = _
    rw [heap_alloc_old _ _ (by omega), heap_alloc_old _ _ (by omega)]
    exact heap_alloc_new _ _
  · show (((V.alloc o0).alloc o1).alloc o2).heap[V.heap.size + 1]? = _
    rw [heap_alloc_old _ _ (by omega), ← e1]
    exact heap_alloc_new _ _
  · show (((V.alloc o0).alloc o1).alloc o2).heap[V.heap.size + 1 + 1]? = _
    rw [← e2]
    exact heap_alloc_new _ _
theorem blk_made {S : TypeId} {g n : Nat} {W : World} (h : W.heap[g]? = some (.cells (madeCells #[.int .i64 0] n) S)) : IsBlk S g n (fun _ => 0) W :=
  ⟨n, fun _ => .int .i64 0, Nat.le_refl _, ⟨_, h, by simp [size_madeCells], fun i hi => by simp [madeCells, hi, Nat.mod_one]⟩, fun _ _ => rfl⟩
theorem cyl_make (S : CyW p la lk fa fk wa wk w.heap.size (w.heap.size + 1) s sa sk sb sl w W) (Q : W.rowIs (w.heap.size + 1 + 1) 38 5 (rowN [.slice none 0 0, .slice none 0 0, .bool false, .slice none 0 0, .int .i64 0])) (hb : Below W.heap.size W W')
    (h1 : W'.heap[nb]? = some (.cells #[.slice (some ⟨tg, 0, none⟩) n n, .slice (some ⟨cg, 0, none⟩) n n, .bool fl] 33)) (h2 : W'.heap[tg]? = some (.cells (madeCells #[.int .i64 0] n) 2)) (h3 : W'.heap[cg]? = some (.cells (madeCells #[.int .i64 0] n) 2)) (ho : tg ≠ cg ∧ W.heap.size ≤ tg ∧ W.heap.size ≤ cg ∧ W.heap.size ≤ nb) :
    CyL p la lk fa fk wa wk s sa sk sb sl n nb tg cg (fun _ => 0) (fun _ => 0) fl w W' :=
  have hq := Q.lt
  ⟨S.below hb, nrow_below Q hb, ⟨_, h1, rfl, fun i hi => by have : i = 0 ∨ i = 1 ∨ i = 2 := by omega
                                                            rcases this with rfl | rfl | rfl <;> rfl⟩, blk_made h2, blk_made h3, ⟨ho.1, by omega, by omega, by omega⟩⟩
end
/-- A list of numbers that grows. -/
def ivs (l : List Int) : List Value := l.map fun x => Value.int .i64 x
theorem own_ints {T : TypeId} {B n : Nat} {v : Value} {l : List Int} {W : World} (h : W.ownsRow B T 1 v n (ivs l)) : ∃ a c, v = .slice a n c ∧ CyO T B n a c (fun j => l.getD j 0) W := by
  have hn : n = l.length := by have := h.1; simp [ivs] at this; omega
  rcases h.2 with ⟨rfl, h2⟩ | ⟨g, cap, cur, rfl, e2, e3, e4, e5, e6, e7⟩
  · exact ⟨none, 0, by rw [h2], Or.inl ⟨rfl, h2, rfl⟩⟩
  · refine ⟨_, cap, rfl, Or.inr ⟨g, rfl, e2, cap, fun i => cur[i]?.getD undef, by omega, ⟨cur, e3, by simpa using e6, fun i hi => ?_⟩, fun j hj => ?_⟩⟩
    · show cur[i]? = some (cur[i]?.getD undef)
      rw [Array.getElem?_eq_getElem (by omega)]
      rfl
    · have h1 : (cur.toList.take (n * 1))[j]? = (ivs l)[j]? := by rw [e7]
      rw [List.getElem?_take, if_pos (by omega), Array.getElem?_toList] at h1
      show cur[j]?.getD undef = _
      rw [h1]
      have : j < l.length := by omega
      simp [ivs, this]
theorem ivs_app (l : List Int) (x : Int) : ivs (l ++ [x]) = ivs l ++ [.int .i64 x] := by simp [ivs]
namespace Cy
/-- The first outs. -/
noncomputable def outs (p : Pg.Prog) (s : Lg) (I : Nat → Int) : Nat → List Int
  | 0 => []
  | m + 1 => outs p s I m ++ [out p s I m]
theorem outs_len (p : Pg.Prog) (s : Lg) (I : Nat → Int) (m : Nat) : (outs p s I m).length = m := by
  induction m with
  | zero => rfl
  | succ m ih => rw [outs, List.length_append, ih]; rfl
theorem outs_get (p : Pg.Prog) (s : Lg) (I : Nat → Int) (m j : Nat) (h : j < m) : (outs p s I m).getD j 0 = out p s I j := by
  induction m with
  | zero => omega
  | succ m ih =>
    have hl := outs_len p s I m
    rw [outs]
    by_cases e : j = m
    · subst e
      simp [List.getD, hl]
    · have : j < m := by omega
      rw [← ih this]
      simp [List.getD, List.getElem?_append, hl, this]
theorem nev_in {p : Pg.Prog} (h : Pg.Right p) {j : Nat} (hj : j < p.nn) : (∃ a : Nat, a < p.bn ∧ p.N (j * 2) = (a : Int)) ∧ (∃ a : Nat, a < p.bn ∧ p.N (j * 2 + 1) = (a : Int)) := by
  obtain ⟨⟨i, hi, e1⟩, ⟨k, hk, e2⟩, _⟩ := h.v j hj
  have h1 := (h.o i hi).1
  have h2 := (h.o k hk).1
  exact ⟨⟨(p.N (j * 2)).toNat, by omega, by omega⟩, ⟨(p.N (j * 2 + 1)).toNat, by omega, by omega⟩⟩
theorem out_in {p : Pg.Prog} (h : Pg.Right p) {j : Nat} (hj : j < p.on) : ∃ a : Nat, a < p.bn ∧ p.O j = (a : Int) := by
  have h1 := (h.o j hj).1
  exact ⟨(p.O j).toNat, by omega, by omega⟩
end Cy
theorem cmax_any (a b : Int) (w : World) : Calls Tryz.prog 66 #[.int .i64 a, .int .i64 b] w fun e w' => e = .returned (.int .i64 (max a b)) ∧ w' = w := by
  by_cases h : b < a
  · have e : max a b = a := by omega
    rw [e]
    go_enter Tryz.func66, Tryz.ntmps66
    go_wp2_with fail
    go_ret
    exact ⟨rfl, rfl⟩
  · have e : max a b = b := by omega
    rw [e]
    go_enter Tryz.func66, Tryz.ntmps66
    go_wp2_with fail
    go_ret
    exact ⟨rfl, rfl⟩
theorem cmin_any (a b : Int) (w : World) : Calls Tryz.prog 65 #[.int .i64 a, .int .i64 b] w fun e w' => e = .returned (.int .i64 (min a b)) ∧ w' = w := by
  by_cases h : a < b
  · have e : min a b = a := by omega
    rw [e]
    go_enter Tryz.func65, Tryz.ntmps65
    go_wp2_with fail
    go_ret
    exact ⟨rfl, rfl⟩
  · have e : min a b = b := by omega
    rw [e]
    go_enter Tryz.func65, Tryz.ntmps65
    go_wp2_with fail
    go_ret
    exact ⟨rfl, rfl⟩
end Go.Proofs.YtogfjomfhenhfaaGreatDoor
namespace Go.Proofs.YtogfjomfhenhfaaGreatDoor
open Go.RowKit Go.Deep

/-- Two blocks alone may have changed. -/
structure OnlyC (a b : Nat) (w w' : World) : Prop where
  os : w'.os = w.os
  tape : w'.tape = w.tape
  output : w'.output = w.output
  size : w.heap.size ≤ w'.heap.size
  block : ∀ k, k < w.heap.size → k ≠ a → k ≠ b → w'.heap[k]? = w.heap[k]?
theorem OnlyC.trans {a b : Nat} {w w1 w2 : World} (h : OnlyC a b w w1) (k : OnlyC a b w1 w2) : OnlyC a b w w2 := ⟨k.os.trans h.os, k.tape.trans h.tape, k.output.trans h.output, Nat.le_trans h.size k.size, fun j hj h1 h2 => (k.block j (Nat.lt_of_lt_of_le hj h.size) h1 h2).trans (h.block j hj h1 h2)⟩
theorem OnlyC.of_below {a b : Nat} {w w1 : World} (h : Below w.heap.size w w1) : OnlyC a b w w1 := ⟨h.os, h.tape, h.output, h.size, fun j hj _ _ => h.block j hj⟩
theorem OnlyC.set1 {a b : Nat} {w w1 : World} (h : OnlyC a b w w1) (i : Nat) (v : Value) : OnlyC a b w (w1.setCell ⟨a, i, none⟩ v) := ⟨h.os, h.tape, h.output, by simpa using h.size, fun j hj h1 h2 => (cyhs _ _ _ h1 _ _).trans (h.block j hj h1 h2)⟩
theorem OnlyC.set2 {a b : Nat} {w w1 : World} (h : OnlyC a b w w1) (i : Nat) (v : Value) : OnlyC a b w (w1.setCell ⟨b, i, none⟩ v) := ⟨h.os, h.tape, h.output, by simpa using h.size, fun j hj h1 h2 => (cyhs _ _ _ h2 _ _).trans (h.block j hj h1 h2)⟩
theorem OnlyC.old {a b B : Nat} {w0 w w1 : World} (h : OnlyC a b w w1) (hb : Below B w0 w) (h1 : B ≤ a) (h2 : B ≤ b) (h3 : B ≤ w.heap.size) : Below B w0 w1 := hb.trans ⟨h.os, h.tape, h.output, h.size, fun k hk => h.block k (by omega) (by omega) (by omega)⟩
section
variable {s : Cy.Lg} {sa : Option Addr} {sk : Nat} {sb : Option Addr} {sl n cb tg cg : Nat} {T C : Nat → Int} {fl : Bool} {ix : Option Addr} {m k : Nat} {F : Nat → Int} {w W W' : World}
/-- The struct of a cycle, the truths, the counts, the ins that are left. -/
structure CyC (s : Cy.Lg) (sa : Option Addr) (sk : Nat) (sb : Option Addr) (sl n cb tg cg : Nat) (T C : Nat → Int) (fl : Bool) (ix : Option Addr) (m k : Nat) (F : Nat → Int) (w W : World) : Prop where
  row : W.rowIs cb 116 7 (rowN [.slice sa s.n sk, .slice sb s.m sl, .bool s.fl, .slice (some ⟨tg, 0, none⟩) n n, .slice (some ⟨cg, 0, none⟩) n n, .bool fl, .slice ix m k])
  t : IsBlk 2 tg n T W
  c : IsBlk 2 cg n C W
  i : IsIn ix m F w ∧ m ≤ k
  o : tg ≠ cg ∧ w.heap.size ≤ tg ∧ w.heap.size ≤ cg ∧ w.heap.size ≤ cb
  old : Below w.heap.size w W
theorem CyC.below (h : CyC s sa sk sb sl n cb tg cg T C fl ix m k F w W) (hb : Below W.heap.size W W') : CyC s sa sk sb sl n cb tg cg T C fl ix m k F w W' :=
  ⟨nrow_below h.row hb, h.t.below hb, h.c.below hb, h.i, h.o, h.old.trans (hb.mono h.old.size)⟩
theorem CyC.putT (h : CyC s sa sk sb sl n cb tg cg T C fl ix m k F w W) (i : Nat) (x : Int) : CyC s sa sk sb sl n cb tg cg (updI T i x) C fl ix m k F w (W.setCell ⟨tg, i, none⟩ (.int .i64 x)) :=
  ⟨nrow_set h.row (p := ⟨tg, i, none⟩) (isblk_ne h.t h.row (by decide)) _, h.t.set i x, h.c.block (cyhs _ _ _ (Ne.symm h.o.1) _ _), h.i, h.o, h.old.setCell (p := ⟨tg, i, none⟩) h.o.2.1 _⟩
theorem CyC.putC (h : CyC s sa sk sb sl n cb tg cg T C fl ix m k F w W) (i : Nat) (x : Int) : CyC s sa sk sb sl n cb tg cg T (updI C i x) fl ix m k F w (W.setCell ⟨cg, i, none⟩ (.int .i64 x)) :=
  ⟨nrow_set h.row (p := ⟨cg, i, none⟩) (isblk_ne h.c h.row (by decide)) _, h.t.block (cyhs _ _ _ h.o.1 _ _), h.c.set i x, h.i, h.o, h.old.setCell (p := ⟨cg, i, none⟩) h.o.2.2.1 _⟩
theorem CyC.ne1 (h : CyC s sa sk sb sl n cb tg cg T C fl ix m k F w W) : cb ≠ tg := isblk_ne h.t h.row (by decide)
theorem CyC.ne2 (h : CyC s sa sk sb sl n cb tg cg T C fl ix m k F w W) : cb ≠ cg := isblk_ne h.c h.row (by decide)
theorem CyC.putI (h : CyC s sa sk sb sl n cb tg cg T C fl ix m k F w W) {iy : Option Addr} {m' k' : Nat} {F' : Nat → Int} (hi : IsIn iy m' F' w ∧ m' ≤ k') : CyC s sa sk sb sl n cb tg cg T C fl iy m' k' F' w (W.setCell ⟨cb, 6, none⟩ (.slice iy m' k')) :=
  ⟨rowN_put h.row 6 (.slice iy m' k') (by simp), h.t.block (cyhs _ _ _ (Ne.symm h.ne1) _ _), h.c.block (cyhs _ _ _ (Ne.symm h.ne2) _ _), hi, h.o, h.old.setCell (p := ⟨cb, 6, none⟩) h.o.2.2.2 _⟩
theorem CyC.fall (h : CyC s sa sk sb sl n cb tg cg T C fl ix m k F w W) (x : Bool) : CyC s sa sk sb sl n cb tg cg T C x ix m k F w (W.setCell ⟨cb, 5, none⟩ (.bool x)) :=
  ⟨rowN_put h.row 5 (.bool x) (by simp), h.t.block (cyhs _ _ _ (Ne.symm h.ne1) _ _), h.c.block (cyhs _ _ _ (Ne.symm h.ne2) _ _), h.i, h.o, h.old.setCell (p := ⟨cb, 5, none⟩) h.o.2.2.2 _⟩
theorem rowN7c {w : World} {g : Nat} {t : TypeId} {a b c d e f k : Value} (h : w.rowIs g t 7 (rowN [a, b, c, d, e, f, k])) : (w.cell? ⟨g, 0, none⟩ = some a ∧ w.cell? ⟨g, 1, none⟩ = some b ∧ w.cell? ⟨g, 2, none⟩ = some c ∧ w.cell? ⟨g, 3, none⟩ = some d ∧ w.cell? ⟨g, 4, none⟩ = some e ∧ w.cell? ⟨g, 5, none⟩ = some f ∧ w.cell? ⟨g, 6, none⟩ = some k) ∧ (w.frozen? ⟨g, 0, none⟩ = false ∧ w.frozen? ⟨g, 1, none⟩ = false ∧ w.frozen? ⟨g, 2, none⟩ = false ∧ w.frozen? ⟨g, 3, none⟩ = false ∧ w.frozen? ⟨g, 4, none⟩ = false ∧ w.frozen? ⟨g, 5, none⟩ = false ∧ w.frozen? ⟨g, 6, none⟩ = false) :=
  ⟨⟨h.cell (by omega), h.cell (by omega), h.cell (by omega), h.cell (by omega), h.cell (by omega), h.cell (by omega), h.cell (by omega)⟩, h.frozen 0, h.frozen 1, h.frozen 2, h.frozen 3, h.frozen 4, h.frozen 5, h.frozen 6⟩
end
theorem opp_any (x : Int) (w : World) (h : 0 ≤ x ∧ x ≤ 1) : Calls Tryz.prog 94 #[.int .i64 x] w fun e w' => e = .returned (.int .i64 (1 - x)) ∧ w' = w := by
  have h1 := h.1
  have h2 := h.2
  go_enter Tryz.func94, Tryz.ntmps94
  go_wp2_with fail
  go_ret
  exact ⟨rfl, rfl⟩
theorem truth_any (b : Bool) (w : World) : Calls Tryz.prog 118 #[.bool b] w fun e w' => e = .returned (.int .i64 (if b = true then 1 else 0)) ∧ w' = w := by
  cases b
  · go_enter Tryz.func118, Tryz.ntmps118
    go_wp2_with fail
    go_ret
    exact ⟨rfl, rfl⟩
  · go_enter Tryz.func118, Tryz.ntmps118
    go_wp2_with fail
    go_ret
    exact ⟨rfl, rfl⟩
theorem countOn_any (c x : Int) (w : World) (hc : 0 ≤ c ∧ c ≤ 101) (hx : 0 ≤ x ∧ x ≤ 1) : Calls Tryz.prog 117 #[.int .i64 c, .int .i64 x] w fun e w' => e = .returned (.int .i64 (if x = 1 then min 101 (c + 1) else 0)) ∧ w' = w := by
  have h1 := hc.1
  have h2 := hc.2
  have hx2 : x = 0 ∨ x = 1 := by omega
  by_cases hm : c + 1 ≤ 101
  · have e : min 101 (c + 1) = c + 1 := by omega
    rw [e]
    rcases hx2 with rfl | rfl
    · go_enter Tryz.func117, Tryz.ntmps117
      go_wp2_with fail
      go_ret
      exact ⟨by simp, rfl⟩
    · go_enter Tryz.func117, Tryz.ntmps117
      go_wp2_with fail
      go_ret
      exact ⟨by simp, rfl⟩
  · have e : min 101 (c + 1) = 101 := by omega
    rw [e]
    rcases hx2 with rfl | rfl
    · go_enter Tryz.func117, Tryz.ntmps117
      go_wp2_with fail
      go_ret
      exact ⟨by simp, rfl⟩
    · go_enter Tryz.func117, Tryz.ntmps117
      go_wp2_with fail
      go_ret
      exact ⟨by simp, rfl⟩
end Go.Proofs.YtogfjomfhenhfaaGreatDoor
namespace Go.Proofs.YtogfjomfhenhfaaGreatDoor
open Go.RowKit Go.Deep

end Go.Proofs.YtogfjomfhenhfaaGreatDoor
namespace Go.Proofs.YtogfjomfhenhfaaGreatDoor
open Go Go.RowKit Go.Deep

theorem lwinfo_i64 : (Tryz.prog.info? 2).map (fun i => (i.zero, i.size, i.bytes)) = some (some (.int .i64 0), 1, 8) := by kernel_rfl
set_option maxRecDepth 100000 in
set_option maxHeartbeats 2000000 in
theorem nsame_same (a b : Option Addr) (n ca cb : Nat) (f : Nat → Int) (w : World) (h1 : IsAt a n f w) (h2 : IsAt b n f w) (hn : n ≤ 1048576) :
    Calls Tryz.prog 12 #[.slice a n ca, .slice b n cb] w fun e w' => e = .returned (.bool true) ∧ Below w.heap.size w w' := by
  have H1 := Lib.hid h1
  have H2 := Lib.hid h2
  clear h1 h2
  go_enter Tryz.func12, Tryz.ntmps12
  go_wp2_with fail
  go_loopw [5] (fun iv wr => ∃ (i : Nat), i ≤ n ∧ iv = .int .i64 i ∧ Hid (Below w.heap.size w wr)) (fun iv _ => n - (intOf iv).toNat)
  case atStart => exact ⟨0, Nat.zero_le _, rfl, Below.refl _ _⟩
  case round =>
    obtain ⟨i, hi, rfl, hB⟩ := hrel
    by_cases hlt : i < n
    · have hltz : (i : Int) < (n : Int) := by omega
      obtain ⟨b1, rfl, k1⟩ := (H1.out.below hB.out).at1 hlt
      obtain ⟨b2, rfl, k2⟩ := (H2.out.below hB.out).at1 hlt
      go_wp2_with fail
      go_region
      go_wp2_with fail
      go_roundw
      case rel => exact ⟨i + 1, by omega, by go_num, hB.out.drew⟩
      case measure => simp [intOf]; omega
    · obtain rfl : i = n := by omega
      go_wp2_with fail
      go_ret
      exact ⟨rfl, hB.out⟩
set_option maxRecDepth 100000 in
set_option maxHeartbeats 2000000 in
theorem ncopy_any (a : Option Addr) (m cap : Nat) (f : Nat → Int) (w : World) (h : IsAt a m f w) (hm : m ≤ 1000) (ha : a = none → cap = 0) :
    Calls Tryz.prog 11 #[.slice a m cap] w fun e w' => (∃ g c, e = .returned (.slice (some ⟨g, 0, none⟩) m c) ∧ w.heap.size ≤ g ∧ IsAt (some ⟨g, 0, none⟩) m f w') ∧ Below w.heap.size w w' := by
  obtain ⟨i0, hi, hz0, hz1, hz2⟩ := info_parts lwinfo_i64
  have H := Lib.hid h
  clear h
  obtain ⟨ab, hab⟩ : ∃ ab : Addr, (a = some ab ∨ (a = none ∧ m = 0)) ∧ ∀ j, j < m → w.cell? (ab.add j) = some (.int .i64 (f j)) := by
    by_cases hm0 : m = 0
    · subst hm0
      cases a with
      | none => exact ⟨⟨0, 0, none⟩, Or.inr ⟨rfl, rfl⟩, fun j hj => absurd hj (Nat.not_lt_zero _)⟩
      | some b => exact ⟨b, Or.inl rfl, fun j hj => absurd hj (Nat.not_lt_zero _)⟩
    · obtain ⟨b, e, _⟩ := H.out.at1 (show 0 < m by omega)
      refine ⟨_, Or.inl e, fun j hj => ?_⟩
      obtain ⟨b', e', c'⟩ := H.out.at1 hj
      rw [e] at e'
      cases e'
      rw [Addr.add_lit]
      simpa using c'
  obtain ⟨ho, hcl⟩ := hab
  rcases ho with rfl | ⟨rfl, rfl⟩
  case inr =>
    obtain rfl := ha rfl
    go_enter Tryz.func11, Tryz.ntmps11
    go_wp2_with fail
    go_ret
    exact ⟨⟨w.heap.size, ⟨0, rfl⟩, Nat.le_refl _, Or.inl rfl⟩, (Below.refl _ _).alloc (Nat.le_refl _) _⟩
  have HC := Lib.hid hcl
  clear hcl
  go_enter Tryz.func11, Tryz.ntmps11
  go_wp2_with (at_builtin; refine wpList_append_own _ rfl _ _ 24 rfl w.heap.size 2 i0 (.int .i64 0) 1 8 Tryz.underlying24 hi hz0 hz1 hz2 rfl (by decide) _ _ _ rfl (World.ownsRow_made w #[] 0 (Nat.le_refl _) (Nat.zero_le _) rfl) ab m cap ((List.range m).map fun j => Value.int .i64 (f j)) rfl ?qc1 ?qc2 ?qc3 ?qc4 ?qc5 ?qc6 ?_)
  case qc1 => simp
  case qc2 =>
    intro j u hj
    have hjn : j < m := by
      have := (List.getElem?_eq_some_iff.1 hj).1
      simpa using this
    refine Lib.cell?_alloc_some _ ?_
    rw [HC.out j hjn, ← hj]
    simp [hjn]
  case qc3 =>
    intro u hu
    obtain ⟨x, _, rfl⟩ := List.mem_map.1 hu
    rfl
  case qc4 => unfold maxLen; omega
  case qc5 => omega
  case qc6 => simp
  intro v' w1 hown hgrow hnil
  have HB : Hid (Below w.heap.size w w1) := ((Below.refl _ w).alloc (Nat.le_refl _) _).grown hgrow (by simp) (by intro k hk; simp [Value.ownBlock] at hk; omega)
  rcases hown.2 with ⟨e1, _⟩ | ⟨g, c, cur, e1, h2, h3, _, _, h6, h7⟩
  · exact absurd e1 (by simpa using hnil)
  · subst e1
    have HAT : Hid (IsAt (some ⟨g, 0, none⟩) m f w1) := Or.inr ⟨g, rfl, fun j hj => by
      have e2 : (cur.toList.take (m * 1))[j]? = some (.int .i64 (f j)) := by
        rw [h7]
        simp [hj]
      rw [List.getElem?_take_of_lt (by omega), Array.getElem?_toList] at e2
      rw [cell_of_row w1 g j cur _ (0, 0) h3, e2]⟩
    clear hown hgrow hnil h3 h6 h7
    go_wp2_with fail
    go_ret
    exact ⟨⟨g, c, rfl, h2, HAT.out⟩, HB.out⟩
end Go.Proofs.YtogfjomfhenhfaaGreatDoor
namespace Go.Proofs.YtogfjomfhenhfaaGreatDoor
open Go.RowKit

/-- The package variable that the program's errors are asked by. -/
def Et (w : World) : Prop := w.cell? ⟨0, 0, none⟩ = some (.iface 185 (.agg #[.pointer (some ⟨4, 78, none⟩)]))
theorem Et.below {w w' : World} (h : Et w) (hb : Below w.heap.size w w') : Et w' := (hb.cell (World.block_lt_of_cell? _ _ h)).trans h
theorem Et.alloc {w : World} (h : Et w) (ob : Obj) : Et (w.alloc ob) := h.below ((Below.refl _ _).alloc (Nat.le_refl _) _)
end Go.Proofs.YtogfjomfhenhfaaGreatDoor
