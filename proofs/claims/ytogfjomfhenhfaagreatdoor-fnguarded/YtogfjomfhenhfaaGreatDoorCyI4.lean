/-
  A cycle in the making: is a never broken, the outs, the end: the program's.
-/
import Derived.Test.YtogfjomfhenhfaaGreatDoorGdA
import Derived.Lib.SliceRun
import Derived.Lib.LazyBuf
namespace Go.Proofs.YtogfjomfhenhfaaGreatDoor
open Go.RowKit Go.Deep

section
variable {s : Cy.Lg} {sa : Option Addr} {sk : Nat} {sb : Option Addr} {sl n cb tg cg : Nat} {T C : Nat → Int} {fl : Bool} {ix : Option Addr} {m k : Nat} {F : Nat → Int}
set_option maxRecDepth 100000 in
set_option maxHeartbeats 4000000 in
theorem breaks1_any (a d xb : Nat) (w W : World) (h : CyC s sa sk sb sl n cb tg cg T C fl ix m k F w W) (hx : W.rowIs xb 136 1 (rowN [.pointer (some ⟨cb, 0, none⟩)])) (hb : Cy.Bits n T) (ha : a < n) (hd : d < n) :
    Calls Tryz.prog 97 #[.agg #[.int .i64 a, .int .i64 d], .pointer (some ⟨xb, 0, none⟩)] W fun e w' => e = .returned (.bool (dB (T a = 1 ∧ T d = 1))) ∧ Below W.heap.size W w' := by
  obtain ⟨W1, hW1⟩ : ∃ W1, W1 = W.alloc (.cells #[.int .i64 a, .int .i64 d] 36) := ⟨_, rfl⟩
  have R1 : Hid (W1.rowIs W.heap.size 36 2 (rowN [.int .i64 a, .int .i64 d])) := by show World.rowIs _ _ _ _ _; rw [hW1]; exact rowN_alloc W _ _
  have BW : Hid (Below W.heap.size W W1) := by show Below _ _ _; rw [hW1]; exact nbel_alloc _ _
  have H := Lib.hid (h.below BW.out)
  have HX := Lib.hid (nrow_below hx BW.out)
  have HW := Lib.hid hW1
  have hba := hb a ha
  have hbd := hb d hd
  obtain ⟨bb, hbb⟩ : ∃ bb, bb = dB (T a = 1 ∧ T d = 1) := ⟨_, rfl⟩
  have hmn : (min (T a) (T d) == 1) = bb := by
    rw [hbb]
    by_cases q : T a = 1 ∧ T d = 1
    · rw [dB_tt q, q.1, q.2]; rfl
    · rw [dB_ff q]
      have : min (T a) (T d) ≠ 1 := by omega
      simp [this]
  have hbt := Cy.and_bit hba hbd
  have han : (a : Int) < (n : Int) := by omega
  have hdn : (d : Int) < (n : Int) := by omega
  rw [← hbb]
  clear h hx hW1 hb hbb hba hbd
  go_enter Tryz.func97, Tryz.ntmps97
  go_wp2_with fail
  rw [← HW.out]
  clear HW
  have ta := H.out.t.cell (i := a) ha
  have td := H.out.t.cell (i := d) hd
  obtain ⟨⟨r0, r1, r2, r3, r4, r5, r6⟩, _⟩ := rowN7c H.out.row
  obtain ⟨⟨y0, y1⟩, _⟩ := rowN2 R1.out
  have x0 : W1.cell? ⟨xb, 0, none⟩ = some (.pointer (some ⟨cb, 0, none⟩)) := HX.out.cell (i := 0) (by omega)
  go_region
  go_wp2_with fail
  go_ret
  exact ⟨rfl, BW.out.drew⟩
set_option maxRecDepth 100000 in
set_option maxHeartbeats 4000000 in
theorem breaksI_any (wa : Option Addr) (nn wk xb : Nat) (N : Nat → Int) (w W : World) (h : CyC s sa sk sb sl n cb tg cg T C fl ix m k F w W) (hx : W.rowIs xb 136 1 (rowN [.pointer (some ⟨cb, 0, none⟩)])) (hb : Cy.Bits n T) (hN : IsAt wa (nn * 2) N w) (hnn : nn ≤ 1048576) (hr : ∀ j, j < nn → (∃ a : Nat, a < n ∧ N (j * 2) = a) ∧ (∃ a : Nat, a < n ∧ N (j * 2 + 1) = a)) :
    Calls Tryz.prog 119 #[.slice wa nn wk, .func (.func 97) #[] #[.pointer (some ⟨xb, 0, none⟩)]] W fun e w' => (∃ z : Int, e = .returned (.int .i64 z) ∧ (0 ≤ z ↔ ∃ j, j < nn ∧ T (N (j * 2)).toNat = 1 ∧ T (N (j * 2 + 1)).toNat = 1)) ∧ Below W.heap.size W w' := by
  have H := Lib.hid h
  have HX := Lib.hid hx
  have HB := Lib.hid hb
  have HN := Lib.hid hN
  have HR := Lib.hid hr
  clear h hx hb hN hr
  go_enter Tryz.func119, Tryz.ntmps119
  go_wp2_with fail
  go_loopw [5, 8] (fun _ iv wr => ∃ (i : Nat), i ≤ nn ∧ iv = .int .i64 i ∧ Hid (Below W.heap.size W wr) ∧ Hid (∀ j, j < i → ¬ (T (N (j * 2)).toNat = 1 ∧ T (N (j * 2 + 1)).toNat = 1))) (fun _ iv _ => nn - (intOf iv).toNat)
  case atStart => exact ⟨0, Nat.zero_le _, rfl, Below.refl _ _, fun j hj => absurd hj (Nat.not_lt_zero _)⟩
  case round =>
    obtain ⟨i, hi, rfl, hB, hP⟩ := hrel
    by_cases hlt : i < nn
    · have hltz : (i : Int) < (nn : Int) := by omega
      obtain ⟨⟨a, ha, haz⟩, ⟨d, hd, hdz⟩⟩ := HR.out i hlt
      obtain ⟨b, e, c0, c1⟩ := (HN.out.below (H.out.old.trans (hB.out.mono H.out.old.size))).at2 hlt
      subst e
      have HAZ : Hid ((N (i * 2)).toNat = a ∧ (N (i * 2 + 1)).toNat = d) := ⟨by omega, by omega⟩
      rw [haz] at c0
      rw [hdz] at c1
      clear haz hdz
      go_wp2_with fail
      refine (breaks1_any a d xb w wr (H.out.below hB.out) (nrow_below HX.out hB.out) HB.out ha hd).mono ?_
      rintro e w1 ⟨rfl, hb⟩
      have HB1 : Hid (Below W.heap.size W w1) := hB.out.trans (hb.mono hB.out.size)
      clear hb c0 c1
      by_cases c : T a = 1 ∧ T d = 1
      · rw [dB_tt c]
        have HC : Hid (∃ j, j < nn ∧ T (N (j * 2)).toNat = 1 ∧ T (N (j * 2 + 1)).toNat = 1) := ⟨i, hlt, by rw [HAZ.out.1]; exact c.1, by rw [HAZ.out.2]; exact c.2⟩
        clear c
        go_wp2_with fail
        go_ret
        exact ⟨⟨_, rfl, ⟨fun _ => HC.out, fun _ => by omega⟩⟩, HB1.out⟩
      · rw [dB_ff c]
        have HC : Hid (¬ (T (N (i * 2)).toNat = 1 ∧ T (N (i * 2 + 1)).toNat = 1)) := by show ¬ _; rw [HAZ.out.1, HAZ.out.2]; exact c
        clear c
        go_wp2_with fail
        go_roundw
        case rel => exact ⟨i + 1, by omega, by go_num, HB1, fun j hj => by
          by_cases e : j = i
          · subst e; exact HC.out
          · exact hP.out j (by omega)⟩
        case measure => simp [intOf]; omega
    · obtain rfl : i = nn := by omega
      go_wp2_with fail
      go_ret
      exact ⟨⟨_, rfl, ⟨fun x => absurd x (by omega), fun ⟨j, hj, q⟩ => absurd q (hP.out j hj)⟩⟩, hB.out⟩
set_option maxRecDepth 100000 in
set_option maxHeartbeats 4000000 in
theorem breaksOne_any (wa : Option Addr) (nn wk : Nat) (N : Nat → Int) (w W : World) (h : CyC s sa sk sb sl n cb tg cg T C fl ix m k F w W) (hb : Cy.Bits n T) (hN : IsAt wa (nn * 2) N w) (hnn : nn ≤ 1048576) (hr : ∀ j, j < nn → (∃ a : Nat, a < n ∧ N (j * 2) = a) ∧ (∃ a : Nat, a < n ∧ N (j * 2 + 1) = a)) :
    Calls Tryz.prog 76 #[.pointer (some ⟨cb, 0, none⟩), .slice wa nn wk] W fun e w' => e = .returned (.bool (dB (∃ j, j < nn ∧ T (N (j * 2)).toNat = 1 ∧ T (N (j * 2 + 1)).toNat = 1))) ∧ Below W.heap.size W w' := by
  have hmf : ∀ (fn : Fn) (first cap : Array Value) (w : World), (Instr.makeFunc fn first cap).run Tryz.prog w = .ok (.func fn first cap) w := fun _ _ _ _ => rfl
  obtain ⟨W1, hW1⟩ : ∃ W1, W1 = W.alloc (.cells #[.pointer (some ⟨cb, 0, none⟩)] 136) := ⟨_, rfl⟩
  have R1 : Hid (W1.rowIs W.heap.size 136 1 (rowN [.pointer (some ⟨cb, 0, none⟩)])) := by show World.rowIs _ _ _ _ _; rw [hW1]; exact rowN_alloc W _ _
  have BW : Hid (Below W.heap.size W W1) := by show Below _ _ _; rw [hW1]; exact nbel_alloc _ _
  have H := Lib.hid (h.below BW.out)
  have HB := Lib.hid hb
  have HN := Lib.hid hN
  have HR := Lib.hid hr
  have HW := Lib.hid hW1
  clear h hW1 hb hN hr
  have HC : Calls Tryz.prog 96 #[.slice wa nn wk, .func (.func 97) #[] #[.pointer (some ⟨W.heap.size, 0, none⟩)]] W1 fun e w' => e = .returned (.bool (dB (∃ j, j < nn ∧ T (N (j * 2)).toNat = 1 ∧ T (N (j * 2 + 1)).toNat = 1))) ∧ Below W1.heap.size W1 w' := by
    go_enter Tryz.func96, Tryz.ntmps96
    go_wp2_with fail
    refine (breaksI_any wa nn wk W.heap.size N w W1 H.out R1.out HB.out HN.out hnn HR.out).mono ?_
    rintro e w1 ⟨⟨z, rfl, hz⟩, hb⟩
    have HB1 := Lib.hid hb
    have HZ := Lib.hid hz
    clear hb hz
    by_cases c : 0 ≤ z
    · have HE := Lib.hid (dB_tt (HZ.out.1 c))
      go_wp2_with fail
      go_ret
      exact ⟨by rw [HE.out]; simp <;> omega, HB1.out⟩
    · have HE := Lib.hid (dB_ff (fun x => c (HZ.out.2 x)))
      go_wp2_with fail
      go_ret
      exact ⟨by rw [HE.out]; simp <;> omega, HB1.out⟩
  have HCC := Lib.hid HC
  clear HC
  go_enter Tryz.func76, Tryz.ntmps76
  go_wp2_with fail
  rw [← HW.out]
  refine HCC.out.mono ?_
  rintro e w2 ⟨rfl, hb⟩
  have B2 : Hid (Below W.heap.size W w2) := BW.out.trans (hb.mono BW.out.size)
  clear hb
  go_wp2_with fail
  go_ret
  exact ⟨rfl, B2.out⟩
set_option maxRecDepth 100000 in
set_option maxHeartbeats 4000000 in
theorem outs_any (fa : Option Addr) (on fk : Nat) (O : Nat → Int) (w W : World) (h : CyC s sa sk sb sl n cb tg cg T C fl ix m k F w W) (hO : IsAt fa on O w) (hon : on ≤ 1048576) (hr : ∀ j, j < on → ∃ a : Nat, a < n ∧ O j = a) :
    Calls Tryz.prog 78 #[.pointer (some ⟨cb, 0, none⟩), .slice fa on fk] W fun e w' => (e = .returned (.slice (some ⟨W.heap.size, 0, none⟩) on on) ∧ IsBlk 2 W.heap.size on (fun j => T (O j).toNat) w') ∧ Below W.heap.size W w' := by
  have hmk := mk_i64 on hon
  have HST : Hid (IsPart 2 W.heap.size on 0 (fun j => T (O j).toNat) (W.alloc (.cells (madeCells #[.int .i64 0] on) 2))) := ⟨_, made_is _ _ W _ (by intro i hi; simp at hi; subst hi; rfl) (by simp), fun j hj => absurd hj (by omega)⟩
  have H := Lib.hid h
  have HO := Lib.hid hO
  have HR := Lib.hid hr
  clear h hO hr
  go_enter Tryz.func78, Tryz.ntmps78
  go_wp2_with fail
  clear hmk
  go_loopw [13] (fun iv wr => ∃ (i : Nat), i ≤ on ∧ iv = .int .i64 i ∧ Hid (IsPart 2 W.heap.size on i (fun j => T (O j).toNat) wr) ∧ Hid (Below W.heap.size W wr)) (fun iv _ => on - (intOf iv).toNat)
  case atStart => exact ⟨0, Nat.zero_le _, rfl, HST, (Below.refl _ _).alloc (Nat.le_refl _) _⟩
  case round =>
    obtain ⟨i, hi, rfl, hP, hB⟩ := hrel
    clear HST
    by_cases hlt : i < on
    · have hltz : (i : Int) < (on : Int) := by omega
      obtain ⟨a, ha, haz⟩ := HR.out i hlt
      obtain ⟨b, e, c0⟩ := (HO.out.below (H.out.old.trans (hB.out.mono H.out.old.size))).at1 hlt
      subst e
      have HAZ : Hid (T a = T (O i).toNat) := by show T a = _; rw [haz]; rfl
      rw [haz] at c0
      have han : (a : Int) < (n : Int) := by omega
      clear haz
      have ta := (H.out.t.below hB.out).cell (i := a) ha
      obtain ⟨⟨r0, r1, r2, r3, r4, r5, r6⟩, _⟩ := rowN7c (nrow_below H.out.row hB.out)
      obtain ⟨v1, y1⟩ := hP.out.cell (j := i) hlt
      have z1 := hP.out.frozen i
      have hz := hP.out.lt
      have HP2 := Lib.hid (hP.out.put (T a) HAZ.out)
      go_wp2_with fail
      go_roundw
      case rel => exact ⟨i + 1, by omega, by go_num, HP2, hB.out.setCell (p := ⟨W.heap.size, _, none⟩) (Nat.le_refl _) _⟩
      case measure => simp [intOf]; omega
    · obtain rfl : i = on := by omega
      go_wp2_with fail
      go_ret
      exact ⟨⟨rfl, hP.out.full (Nat.le_refl _)⟩, hB.out⟩
end
theorem zero_i64 (w : World) : (zeroValue 2).run Tryz.prog w = .ok (.int .i64 0) w := by
  have h := ninfo_i64
  cases hq : Tryz.prog.info? 2 with
  | none => rw [hq] at h; cases h
  | some i =>
    rw [hq] at h
    have hi : i.zero = some (.int .i64 0) := by simp at h; exact h.1
    simp [zeroValue, typeInfo, hq, hi]
theorem only_setCells {g : Nat} : ∀ (vs : List Value) (o : Nat) (w : World), Only g w (w.setCells g o vs)
  | [], _, w => Only.refl g w
  | v :: vs, o, w => by
    have h1 : Only g w (w.setCell ⟨g, o, none⟩ v) := (Only.refl g w).set o v
    have h2 := only_setCells (g := g) vs (o + 1) (w.setCell ⟨g, o, none⟩ v)
    exact ⟨h2.os.trans h1.os, h2.tape.trans h1.tape, h2.output.trans h1.output, Nat.le_trans h1.size h2.size, fun k hk hne => (h2.block k (Nat.lt_of_lt_of_le hk h1.size) hne).trans (h1.block k hk hne)⟩
/-- A list cleared. -/
theorem clear_any (g on : Nat) (f : Nat → Int) (ty : TypeId) (W : World) (h : IsBlk 2 g on f W) (h0 : 0 < on) : ∃ W', (Builtin.clear_ #[24] ty #[.slice (some ⟨g, 0, none⟩) on on]).run Tryz.prog W = .ok (.tuple #[]) W' ∧ IsBlk 2 g on (fun _ => 0) W' ∧ Only g W W' := by
  have hc : ∀ j, j < on → (W.cell? ⟨g, 0 + j, none⟩).isSome = true := fun j hj => by rw [Nat.zero_add, h.cell hj]; rfl
  have hf : ∀ j, j < on → W.frozen? ⟨g, 0 + j, none⟩ = false := fun j _ => by rw [Nat.zero_add]; exact h.frozen j
  refine ⟨_, Lib.run_clear_slice W 24 2 ty (.int .i64 0) Tryz.underlying24 zero_i64 rfl rfl g 0 on on h0 hc hf, ?_, only_setCells _ _ _⟩
  obtain ⟨m, F, h1, h2, h3⟩ := h
  refine ⟨m, _, h1, Go.rowIs_setCells _ 0 W F h2, fun j hj => ?_⟩
  simp [hj]
end Go.Proofs.YtogfjomfhenhfaaGreatDoor
