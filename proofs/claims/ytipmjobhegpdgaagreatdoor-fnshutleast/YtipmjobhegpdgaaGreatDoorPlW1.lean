/-
  The program's tests of ways.
-/
import Derived.Test.YtipmjobhegpdgaaGreatDoorPlI1
import Derived.Deep.QuietTactic
import Derived.ScopeJumps
import Derived.Deep.DeepCutAuto
import Derived.Deep.RegionHeld3
import Derived.Test.YtipmjobhegpdgaaGreatDoorReg
namespace Go.Proofs.YtipmjobhegpdgaaGreatDoor
open Go.RowKit Go.Deep

set_option maxRecDepth 100000 in
set_option maxHeartbeats 1000000 in
theorem pidx_any (a : Option Addr) (n cap : Nat) (f : Nat → Int) (x : Int) (w : World) (h : IsAt a n f w) (hn : n ≤ 1048576) :
    Calls Tryz.prog 69 #[.slice a n cap, .int .i64 x] w fun e w' => (∃ z : Int, e = .returned (.int .i64 z) ∧ (0 ≤ z ↔ Pl.Has n f x)) ∧ w' = w := by
  have H := Lib.hid h
  clear h
  go_enter Tryz.func69, Tryz.ntmps69
  go_wp2_with fail
  go_loopw [5, 8] (fun _ iv wr => ∃ (i : Nat), i ≤ n ∧ iv = .int .i64 i ∧ wr = w ∧ Hid (∀ j, j < i → f j ≠ x)) (fun _ iv _ => n - (intOf iv).toNat)
  case atStart => exact ⟨0, Nat.zero_le _, rfl, rfl, fun j hj => absurd hj (Nat.not_lt_zero _)⟩
  case round =>
    obtain ⟨i, hi, rfl, rfl, hP⟩ := hrel
    by_cases hlt : i < n
    · have hltz : (i : Int) < (n : Int) := by omega
      obtain ⟨b, e, c0⟩ := H.out.at1 hlt
      subst e
      by_cases c : f i = x
      · have HC : Hid (Pl.Has n f x) := ⟨i, hlt, c⟩
        have c' : (x == f i) = true := by simp [c]
        clear c
        go_wp2_with fail
        go_ret
        exact ⟨⟨_, rfl, ⟨fun _ => HC.out, fun _ => by omega⟩⟩, rfl⟩
      · have HC := Lib.hid c
        have c' : (x == f i) = false := by simp; exact fun q => c q.symm
        clear c
        go_wp2_with fail
        go_roundw
        case rel => exact ⟨i + 1, by omega, by go_num, by trivial, fun j hj => by
          by_cases e : j = i
          · subst e; exact HC.out
          · exact hP.out j (by omega)⟩
        case measure => simp [intOf]; omega
    · obtain rfl : i = n := by omega
      go_wp2_with fail
      go_ret
      exact ⟨⟨_, rfl, ⟨fun x => absurd x (by omega), fun ⟨j, hj, e⟩ => absurd e (hP.out j hj)⟩⟩, rfl⟩
set_option maxRecDepth 100000 in
set_option maxHeartbeats 1000000 in
theorem pcont_any (a : Option Addr) (n cap : Nat) (f : Nat → Int) (x : Int) (w : World) (h : IsAt a n f w) (hn : n ≤ 1048576) :
    Calls Tryz.prog 47 #[.slice a n cap, .int .i64 x] w fun e w' => e = .returned (.bool (dB (Pl.Has n f x))) ∧ w' = w := by
  have H := Lib.hid h
  clear h
  go_enter Tryz.func47, Tryz.ntmps47
  go_wp2_with fail
  refine (pidx_any a n cap f x _ H.out hn).mono ?_
  rintro e w1 ⟨⟨z, rfl, hz⟩, rfl⟩
  have HZ := Lib.hid hz
  clear hz
  by_cases c : 0 ≤ z
  · have HE := Lib.hid (dB_tt (HZ.out.1 c))
    go_wp2_with fail
    go_ret
    exact ⟨by rw [HE.out]; simp <;> omega, rfl⟩
  · have HE := Lib.hid (dB_ff (fun x => c (HZ.out.2 x)))
    go_wp2_with fail
    go_ret
    exact ⟨by rw [HE.out]; simp <;> omega, rfl⟩
/-- The lower and the higher of two. -/
def Pl.lo (a b : Int) : Int := if a ≤ b then a else b
def Pl.hi (a b : Int) : Int := if a ≤ b then b else a
set_option maxRecDepth 100000 in
set_option maxHeartbeats 1000000 in
theorem ppair_any (a b : Int) (w : World) :
    Calls Tryz.prog 77 #[.int .i64 a, .int .i64 b] w fun e w' => e = .returned (.agg #[.int .i64 (Pl.lo a b), .int .i64 (Pl.hi a b)]) ∧ Below w.heap.size w w' := by
  go_enter Tryz.func77, Tryz.ntmps77
  go_wp2_with fail
  all_goals
    refine bodyPost_ret (v := (.agg #[.int .i64 (Pl.lo a b), .int .i64 (Pl.hi a b)])) ?_ rfl ⟨rfl, nbel_alloc _ _⟩
    simp only [results, Tryz.results77]
    simp [go_sem]
    unfold Pl.lo Pl.hi
    constructor <;> split <;> omega
/-- The other of two places. -/
def Pl.acr (lo hi x : Int) : Int := if x = lo then hi else if x = hi then lo else -1
set_option maxRecDepth 100000 in
set_option maxHeartbeats 1000000 in
theorem pacross_any (lo hi x : Int) (w : World) :
    Calls Tryz.prog 81 #[.agg #[.int .i64 lo, .int .i64 hi], .int .i64 x] w fun e w' => e = .returned (.int .i64 (Pl.acr lo hi x)) ∧ Below w.heap.size w w' := by
  unfold Pl.acr
  by_cases h1 : x = lo
  · rw [if_pos h1]
    subst h1
    go_enter Tryz.func81, Tryz.ntmps81
    go_wp2_with fail
    go_ret
    exact ⟨rfl, nbel_alloc _ _⟩
  · rw [if_neg h1]
    have h1' : (x == lo) = false := by simp [h1]
    clear h1
    by_cases h2 : x = hi
    · rw [if_pos h2]
      subst h2
      go_enter Tryz.func81, Tryz.ntmps81
      go_wp2_with fail
      go_ret
      exact ⟨rfl, nbel_alloc _ _⟩
    · rw [if_neg h2]
      have h2' : (x == hi) = false := by simp [h2]
      clear h2
      go_enter Tryz.func81, Tryz.ntmps81
      go_wp2_with fail
      go_ret
      exact ⟨rfl, nbel_alloc _ _⟩
theorem Pl.acr_oth {f t : Int} (_h : f ≠ t) (x : Int) : Pl.acr (Pl.lo f t) (Pl.hi f t) x = if f = x then t else if t = x then f else -1 := by
  unfold Pl.acr Pl.lo Pl.hi
  repeat' split
  all_goals omega
/-- The other end of a row. -/
def Pl.oth (p : Pl.Plan) (r : Nat) (x : Int) : Int := if p.R (r * 3) = x then p.R (r * 3 + 1) else if p.R (r * 3 + 1) = x then p.R (r * 3) else -1
/-- Where one is, so many rows back from the end of a way. -/
def Pl.back (p : Pl.Plan) (l : Nat → Int) (m : Nat) (x : Int) : Nat → Int
  | 0 => x
  | k + 1 => Pl.oth p (l (m - 1 - k)).toNat (Pl.back p l m x k)
theorem Pl.oth_neg {p : Pl.Plan} (h : Pl.Right p) {r : Nat} (hr : r < p.rn) : Pl.oth p r (-1) = -1 := by
  have h1 := (h.rows r hr).1
  have h2 := (h.rows r hr).2.1
  unfold Pl.oth
  rw [if_neg (by omega), if_neg (by omega)]
theorem Pl.oth_ge {p : Pl.Plan} (h : Pl.Right p) {r : Nat} (hr : r < p.rn) (x : Int) : -1 ≤ Pl.oth p r x ∧ Pl.oth p r x < p.hn := by
  have h1 := (h.rows r hr).1
  have h2 := (h.rows r hr).2.1
  unfold Pl.oth
  split
  · omega
  · split <;> omega
theorem Pl.back_neg {p : Pl.Plan} (h : Pl.Right p) {l : Nat → Int} {m : Nat} (hI : ∀ k, k < m → 0 ≤ l k ∧ l k < p.rn) {x : Int} {k : Nat} (e : Pl.back p l m x k = -1) : ∀ d, k + d ≤ m → Pl.back p l m x (k + d) = -1 := by
  intro d
  induction d with
  | zero => intro _; exact e
  | succ d ih =>
    intro hd
    have h1 := ih (by omega)
    show Pl.oth p _ (Pl.back p l m x (k + d)) = -1
    rw [h1]
    have h2 := hI (m - 1 - (k + d)) (by omega)
    exact Pl.oth_neg h (show (l (m - 1 - (k + d))).toNat < p.rn by omega)
theorem Pl.has_neg {p : Pl.Plan} (h : Pl.Right p) : ¬ Pl.Has p.sn p.S (-1) := fun ⟨i, hi, e⟩ => by have := (h.s i hi).1.1; omega
theorem wp_scope_label {P : Program} {a : Act} {w : World} {Q : Exit → Act → World → Prop} {c rest : Code} (l : Nat) (J : Act → World → Prop) (μ : Act → World → Nat) (hf : findLabel c l = some (Code.skip.seq rest))
    (first : ∀ Q' : Exit → Act → World → Prop, (∀ a w, J a w → rest.wp P Q' a w) → c.wp P Q' a w)
    (pass : ∀ a w, J a w → rest.wp P (Exit.jump l (fun a' w' => J a' w' ∧ μ a' w' < μ a w) Q) a w) : (Code.scope c).wp P Q a w :=
  wp_scope_jumps l J μ hf (first _ (fun a w h => wp_mono (pass a w h) (fun e a' w' hq => by
    cases e <;> simp only [Exit.jump] at hq ⊢
    all_goals first | exact ⟨hq.1, hq.2.1⟩ | exact hq))) (fun a w h => wp_seq (wp_skip (pass a w h)))
set_option maxRecDepth 100000 in
set_option maxHeartbeats 1000000 in
theorem pleads_any (n : Pl.Plan) (la : Option Addr) (lk : Nat) (fa : Option Addr) (fk : Nat) (wa : Option Addr) (wk : Nat) (a : Option Addr) (m cap : Nat) (l : Nat → Int) (place : Int) (w : World) (h : PlAt n la fa wa w) (hr : Pl.Right n) (hl : IsAt a m l w) (hm : m ≤ 100) (hI : ∀ k, k < m → 0 ≤ l k ∧ l k < n.rn) :
    Calls Tryz.prog 55 #[plV n la lk fa fk wa wk, .slice a m cap, .int .i64 place] w fun e w' => e = .returned (.bool (dB (Pl.Has n.sn n.S (Pl.back n l m place m)))) ∧ Below w.heap.size w w' := by
  have HR0 : Hid ((w.alloc (.cells #[.slice la n.rn lk, .slice fa n.sn fk, .slice wa n.hn wk] 32)).rowIs w.heap.size 32 3 (rowN (plL n la lk fa fk wa wk))) := rowN_alloc w _ _
  have H := Lib.hid h
  have HR := Lib.hid hr
  have HL := Lib.hid hl
  have HI := Lib.hid hI
  clear h hr hl hI
  go_enter Tryz.func55, Tryz.ntmps55
  go_wp2_with fail
  refine wp_scope_label 0 (fun a' w' => ∃ (k q : Nat) (u9 u10 u11 u12 u13 u14 u15 u16 u17 u18 u19 u20 u21 u22 u23 u24 u25 u26 u27 u28 u29 u30 u31 u32 u33 u34 u35 u36 u37 : Value), k + q = m ∧ a' = { tmps := #[plV n la lk fa fk wa wk, .slice a m cap, .int .i64 place, .pointer (some ⟨w.heap.size, 0, none⟩), undef, undef, .bool false, .int .i64 (Pl.back n l m place k), .int .i64 (q : Nat), u9, u10, u11, u12, u13, u14, u15, u16, u17, u18, u19, u20, u21, u22, u23, u24, u25, u26, u27, u28, u29, u30, u31, u32, u33, u34, u35, u36, u37], defers := [] } ∧ Hid (Below w.heap.size w w' ∧ w'.rowIs w.heap.size 32 3 (rowN (plL n la lk fa fk wa wk)))) (fun a' _ => (intOf (a'.tmps.getD 8 undef)).toNat) rfl ?_ ?_
  · intro Q' hQ
    go_wp2_with fail
    go_step3
    rename_i hK0
    refine hK0 _ _ (hQ _ _ ⟨0, m, _, _, _, _, _, _, _, _, _, _, _, _, _, _, _, _, _, _, _, _, _, _, _, _, _, _, _, _, _, Nat.zero_add _, rfl, nbel_alloc _ _, HR0.out⟩)
  · rintro a' W1 ⟨k, q, u9, u10, u11, u12, u13, u14, u15, u16, u17, u18, u19, u20, u21, u22, u23, u24, u25, u26, u27, u28, u29, u30, u31, u32, u33, u34, u35, u36, u37, hk, rfl, hW⟩
    obtain ⟨⟨p0, p1, p2⟩, _⟩ := rowN3 hW.out.2
    by_cases e : q = 0
    · subst e
      obtain rfl : k = m := by omega
      go_wp2_with fail
      refine (pcont_any fa n.sn fk n.S _ _ (H.out.f.below hW.out.1) (by have := HR.out.sn40; omega)).mono ?_
      rintro e w1 ⟨rfl, rfl⟩
      go_wp2_with fail
      simp only [Exit.jump]
      go_ret
      exact ⟨rfl, hW.out.1⟩
    · obtain ⟨j, rfl⟩ : ∃ j : Nat, q = j + 1 := ⟨q - 1, by omega⟩
      have hj : m - k = j + 1 := by omega
      have hj2 : j = m - 1 - k := by omega
      have HJ : Hid (m - k = j + 1 ∧ j = m - 1 - k) := ⟨hj, hj2⟩
      obtain ⟨b2, eb, cl⟩ := (HL.out.below hW.out.1).at1 (i := j) (by omega)
      have hrg := HI.out j (by omega)
      obtain ⟨r, hrr⟩ : ∃ r : Nat, l j = (r : Int) := ⟨(l j).toNat, by omega⟩
      rw [hrr] at cl hrg
      have hrl : r < n.rn := by omega
      obtain ⟨b, eb2, c0, c1, c2⟩ := (H.out.below hW.out.1).l.at3 hrl
      subst eb eb2
      have HRR := Lib.hid hrr
      have hjm : (j : Int) < (m : Int) := by omega
      have hrlz : (r : Int) < (n.rn : Int) := by omega
      clear hrr hrg hj hj2
      have e1 : (((j + 1 : Nat) : Int) == 0) = false := by simp; omega
      clear e hk
      go_wp2_with fail
      go_cut [9] (fun p V => ∃ gb, p = .pointer (some ⟨gb, 0, none⟩) ∧ Hid (V.rowIs gb 61 3 (rowN [.int .i64 (n.R (r * 3)), .int .i64 (n.R (r * 3 + 1)), .int .i64 (n.R (r * 3 + 2))]) ∧ Below W1.heap.size W1 V ∧ W1.heap.size ≤ gb))
      case first =>
        refine wp_region_held_drew (S := fun V => Below W1.heap.size W1 V) (by kernel_rfl) (Below.refl _ _).drew (fun hHeld => ?_)
        obtain ⟨Z, hZ⟩ : ∃ Z, Z = W1.drew := ⟨_, rfl⟩
        rw [← hZ] at hHeld ⊢
        clear hZ
        refine take_do (i := 0) (v := (.pointer (some ⟨w.heap.size, 0, none⟩))) rfl (by kernel_rfl) (by kernel_rfl) (by kernel_rfl) (fun _ _ _ h => h) (by rfl) ?_ (by assumption) ?_
        · intro w hSw
          skip
          go_simp
        simp only [Act.put, List.setIfInBounds_toArray, List.set_cons_zero, List.set_cons_succ]
        refine take_do (i := 1) (v := (.slice (some ⟨b, 0, none⟩) n.rn lk)) rfl (by kernel_rfl) (by kernel_rfl) (by kernel_rfl) (fun _ _ _ h => h) (by rfl) ?_ (by assumption) ?_
        · intro w hSw
          have hc_p0 := (hSw.cell (World.block_lt_of_cell? _ _ p0)).trans p0
          go_simp
        simp only [Act.put, List.setIfInBounds_toArray, List.set_cons_zero, List.set_cons_succ]
        refine take_do (i := 2) (v := (.slice (some ⟨b2, 0, none⟩) m cap)) rfl (by kernel_rfl) (by kernel_rfl) (by kernel_rfl) (fun _ _ _ h => h) (by rfl) ?_ (by assumption) ?_
        · intro w hSw
          skip
          go_simp
        simp only [Act.put, List.setIfInBounds_toArray, List.set_cons_zero, List.set_cons_succ]
        refine take_do (i := 3) (v := (.int .i64 (j : Nat))) rfl (by kernel_rfl) (by kernel_rfl) (by kernel_rfl) (fun _ _ _ h => h) (by rfl) ?_ (by assumption) ?_
        · intro w hSw
          skip
          go_simp
        simp only [Act.put, List.setIfInBounds_toArray, List.set_cons_zero, List.set_cons_succ]
        refine take_do (i := 4) (v := (.pointer (some ⟨b2, j, none⟩))) rfl (by kernel_rfl) (by kernel_rfl) (by kernel_rfl) (fun _ _ _ h => h) (by rfl) ?_ (by assumption) ?_
        · intro w hSw
          skip
          go_simp
        simp only [Act.put, List.setIfInBounds_toArray, List.set_cons_zero, List.set_cons_succ]
        refine take_do (i := 5) (v := (.int .i64 (r : Nat))) rfl (by kernel_rfl) (by kernel_rfl) (by kernel_rfl) (fun _ _ _ h => h) (by rfl) ?_ (by assumption) ?_
        · intro w hSw
          have hc_cl := (hSw.cell (World.block_lt_of_cell? _ _ cl)).trans cl
          go_simp
        simp only [Act.put, List.setIfInBounds_toArray, List.set_cons_zero, List.set_cons_succ]
        refine take_do (i := 6) (v := (.pointer (some ⟨b, r * 3, none⟩))) rfl (by kernel_rfl) (by kernel_rfl) (by kernel_rfl) (fun _ _ _ h => h) (by rfl) ?_ (by assumption) ?_
        · intro w hSw
          skip
          go_simp
        simp only [Act.put, List.setIfInBounds_toArray, List.set_cons_zero, List.set_cons_succ]
        refine take_do (i := 7) (v := (.agg #[.int .i64 (n.R (r * 3)), .int .i64 (n.R (r * 3 + 1)), .int .i64 (n.R (r * 3 + 2))])) rfl (by kernel_rfl) (by kernel_rfl) (by kernel_rfl) (fun _ _ _ h => h) (by rfl) ?_ (by assumption) ?_
        · intro w hSw
          have hc_c0 := (hSw.cell (World.block_lt_of_cell? _ _ c0)).trans c0
          have hc_c1 := (hSw.cell (World.block_lt_of_cell? _ _ c1)).trans c1
          have hc_c2 := (hSw.cell (World.block_lt_of_cell? _ _ c2)).trans c2
          go_simp
        simp only [Act.put, List.setIfInBounds_toArray, List.set_cons_zero, List.set_cons_succ]
        refine take_call (i := 8) rfl (by kernel_rfl) (fun K2 hK => ?_)
        obtain ⟨Z1, hZ1⟩ : ∃ Z1, Z1 = Z.alloc (.cells #[.int .i64 0, .int .i64 0, .int .i64 0] 61) := ⟨_, rfl⟩
        have hb : Below Z.heap.size Z Z1 := by rw [hZ1]; exact nbel_alloc _ _
        obtain ⟨gb, hgb⟩ : ∃ gb, gb = Z.heap.size := ⟨_, rfl⟩
        have RZ : Hid (Z1.rowIs gb 61 3 (rowN [.int .i64 0, .int .i64 0, .int .i64 0])) := by show World.rowIs _ _ _ _ _; rw [hZ1, hgb]; exact rowN_alloc _ _ _
        have HGB : Hid (W1.heap.size ≤ gb) := by show _ ≤ _; rw [hgb]; exact hHeld.size
        go_simp
        rw [← hZ1, ← hgb]
        refine hK.out _ _ (hHeld.trans (hb.mono hHeld.size)) (fun hHeld2 => ?_)
        clear hK hHeld
        have hHeld := hHeld2
        clear hHeld2
        clear hb hZ1 hgb
        have o0 := RZ.out.cell (i := 0) (by omega)
        have z0 := RZ.out.frozen 0
        have o1 := RZ.out.cell (i := 1) (by omega)
        have z1 := RZ.out.frozen 1
        have o2 := RZ.out.cell (i := 2) (by omega)
        have z2 := RZ.out.frozen 2
        have l0 := RZ.out.lt
        obtain ⟨WZ, hWZ⟩ : ∃ WZ, WZ = (((Z1.setCell ⟨gb, 0, none⟩ (.int .i64 (n.R (r * 3)))).setCell ⟨gb, 1, none⟩ (.int .i64 (n.R (r * 3 + 1)))).setCell ⟨gb, 2, none⟩ (.int .i64 (n.R (r * 3 + 2)))) := ⟨_, rfl⟩
        have hbZ : Below W1.heap.size W1 WZ := by rw [hWZ]; exact (((hHeld.setCell (p := ⟨gb, 0, none⟩) HGB.out _).setCell (p := ⟨gb, 1, none⟩) HGB.out _).setCell (p := ⟨gb, 2, none⟩) HGB.out _)
        have HFM : Hid (WZ.rowIs gb 61 3 (rowN [.int .i64 (n.R (r * 3)), .int .i64 (n.R (r * 3 + 1)), .int .i64 (n.R (r * 3 + 2))])) := by show World.rowIs _ _ _ _ _; rw [hWZ]; exact (rowN_put (rowN_put (rowN_put RZ.out 0 (.int .i64 (n.R (r * 3))) (by simp)) 1 (.int .i64 (n.R (r * 3 + 1))) (by simp)) 2 (.int .i64 (n.R (r * 3 + 2))) (by simp))
        have HWZ := Lib.hid hWZ
        have HBZ := Lib.hid hbZ
        clear hWZ hbZ
        refine take_call (i := 9) rfl (by kernel_rfl) (fun K2 hK => ?_)
        go_simp
        rw [← HWZ.out]
        refine hK.out _ _ HBZ.out (fun hHeld2 => ?_)
        clear hK hHeld hHeld2 HWZ o0 z0 o1 z1 o2 z2 l0
        refine wpAnyH_done (by kernel_rfl) ?_ _
        go_wp2_with fail
        go_meet
        case rel => exact ⟨gb, rfl, HFM.out, HBZ.out, HGB.out⟩
      case rest =>
      obtain ⟨gb, rfl, hC⟩ := hcut
      obtain ⟨V0, hV0⟩ : ∃ V0, V0 = wc := ⟨_, rfl⟩
      rw [← hV0] at hC ⊢
      clear hV0
      have HB0 : Hid (Below w.heap.size w V0) := hW.out.1.trans (hC.out.2.1.mono hW.out.1.size)
      have HP0 := Lib.hid (nrow_below hW.out.2 hC.out.2.1)
      obtain ⟨⟨x0, x1, x2⟩, _⟩ := rowN3 hC.out.1
      have HNE : Hid (n.R (r * 3) ≠ n.R (r * 3 + 1)) := (HR.out.rows r hrl).2.2.1
      clear p0 p1 p2 c0 c1 c2 cl hW hC
      go_wp2_with fail
      refine (ppair_any _ _ _).mono ?_
      rintro e w1 ⟨rfl, hb1⟩
      have HB1 : Hid (Below w.heap.size w w1) := HB0.out.trans (hb1.mono HB0.out.size)
      have HP1 := Lib.hid (nrow_below HP0.out hb1)
      clear hb1 HB0 HP0 x0 x1 x2
      go_wp2_with fail
      refine (pacross_any _ _ _ _).mono ?_
      rintro e w2 ⟨rfl, hb2⟩
      have HB2 : Hid (Below w.heap.size w w2) := HB1.out.trans (hb2.mono HB1.out.size)
      have HP2 := Lib.hid (nrow_below HP1.out hb2)
      have HBK : Hid (Pl.acr (Pl.lo (n.R (r * 3)) (n.R (r * 3 + 1))) (Pl.hi (n.R (r * 3)) (n.R (r * 3 + 1))) (Pl.back n l m place k) = Pl.back n l m place (k + 1)) := by
        show _ = _
        rw [Pl.acr_oth HNE.out]
        show _ = Pl.oth n (l (m - 1 - k)).toNat _
        rw [← HJ.out.2, HRR.out]
        rfl
      clear hb2 HB1 HP1
      rw [HBK.out]
      by_cases e9 : Pl.back n l m place (k + 1) = -1
      · have e9' : (Pl.back n l m place (k + 1) != -1) = false := by simp [e9]
        have HE : Hid (dB (Pl.Has n.sn n.S (Pl.back n l m place m)) = false) := dB_ff (fun x => by
          have hz := Pl.back_neg HR.out HI.out e9 (m - (k + 1)) (by have := HJ.out; omega)
          rw [show k + 1 + (m - (k + 1)) = m by have := HJ.out; omega] at hz
          rw [hz] at x
          exact Pl.has_neg HR.out x)
        clear e9
        go_wp2_with fail
        simp only [Exit.jump]
        go_ret
        exact ⟨by rw [HE.out]; rfl, HB2.out⟩
      · have e9' : (Pl.back n l m place (k + 1) != -1) = true := by simp [e9]
        clear e9
        go_wp2_with fail
        go_step3
        exact ⟨rfl, ⟨k + 1, j, _, _, _, _, _, _, _, _, _, _, _, _, _, _, _, _, _, _, _, _, _, _, _, _, _, _, _, _, _, by have := HJ.out; omega, rfl, HB2.out, HP2.out⟩, by simp [intOf]⟩
/-- A block of Booleans of the call's own. -/
def BBlk (g m : Nat) (u : Nat → Bool) (w : World) : Prop := w.rowIs g 4 m (fun j => .bool (u j))
def updB (u : Nat → Bool) (i : Nat) (x : Bool) : Nat → Bool := fun j => if j = i then x else u j
theorem BBlk.set {g m : Nat} {u : Nat → Bool} {w : World} (h : BBlk g m u w) (i : Nat) (x : Bool) : BBlk g m (updB u i x) (w.setCell ⟨g, i, none⟩ (.bool x)) := by
  have h2 := World.rowIs.set h i (.bool x)
  have e : (fun j => if j = i then Value.bool x else .bool (u j)) = fun j => .bool (updB u i x j) := by
    funext j; unfold updB; by_cases ej : j = i <;> simp [ej]
  rw [e] at h2
  exact h2
theorem BBlk.below {g m : Nat} {u : Nat → Bool} {w w' : World} (h : BBlk g m u w) (hb : Below w.heap.size w w') : BBlk g m u w' := nrow_below h hb
theorem BBlk.other {g m : Nat} {u : Nat → Bool} {w w' : World} (h : BBlk g m u w) (e : w'.heap[g]? = w.heap[g]?) : BBlk g m u w' := World.rowIs.of_block h e
/-- A row with a good valve. -/
def Pl.gd (p : Pl.Plan) (r : Nat) : Prop := p.R (r * 3 + 2) = 1
/-- What the first rows of a way show. -/
structure Pl.Use (p : Pl.Plan) (l : Nat → Int) (u : Nat → Bool) (k : Nat) : Prop where
  rng : ∀ j, j < k → 0 ≤ l j ∧ l j < p.rn
  fresh : ∀ j, j < k → Pl.gd p (l j).toNat → u (l j).toNat = false ∧ ∀ i, i < j → l i ≠ l j
/-- What is marked behind them. -/
noncomputable def Pl.usd (p : Pl.Plan) (l : Nat → Int) (u : Nat → Bool) (k : Nat) (r : Nat) : Bool := u r || dB (Pl.gd p r ∧ ∃ j, j < k ∧ l j = (r : Int))
theorem Pl.usd_zero {p : Pl.Plan} {l : Nat → Int} {u : Nat → Bool} : Pl.usd p l u 0 = u := by
  funext r; unfold Pl.usd; rw [dB_ff (fun x => by obtain ⟨_, j, hj, _⟩ := x; omega)]; simp
theorem Pl.usd_succ {p : Pl.Plan} {l : Nat → Int} {u : Nat → Bool} {k r : Nat} (hr : l k = (r : Int)) (hu : Pl.usd p l u k r = false) : updB (Pl.usd p l u k) r (dB (Pl.gd p r)) = Pl.usd p l u (k + 1) := by
  funext j
  unfold updB
  by_cases e : j = r
  · subst e
    rw [if_pos rfl]
    unfold Pl.usd at hu ⊢
    simp at hu
    rw [hu.1]
    simp
    exact dB_congr ⟨fun x => ⟨x, k, by omega, hr⟩, fun x => x.1⟩
  · rw [if_neg e]
    unfold Pl.usd
    congr 1
    refine dB_congr ⟨fun ⟨x, i, hi, h⟩ => ⟨x, i, by omega, h⟩, fun ⟨x, i, hi, h⟩ => ⟨x, i, ?_, h⟩⟩
    by_cases ei : i = k
    · subst ei; rw [hr] at h; omega
    · omega
set_option maxRecDepth 100000 in
set_option maxHeartbeats 2000000 in
theorem puse_any (n : Pl.Plan) (la : Option Addr) (lk : Nat) (a : Option Addr) (m cap : Nat) (l : Nat → Int) (g ku : Nat) (u : Nat → Bool) (w : World) (h : IsAt la (n.rn * 3) n.R w) (hr : Pl.Right n) (hl : IsAt a m l w) (hm : m ≤ 100) (hg : BBlk g n.rn u w) (hug : ∀ r, u r = true → Pl.gd n r)
    (hgl : 0 < n.rn → ∀ b, la = some ⟨b, 0, none⟩ → b ≠ g) (hga : 0 < m → ∀ b, a = some ⟨b, 0, none⟩ → b ≠ g) :
    Calls Tryz.prog 54 #[.slice la n.rn lk, .slice a m cap, .slice (some ⟨g, 0, none⟩) n.rn ku] w fun e w' => e = .returned (.bool (dB (Pl.Use n l u m))) ∧ Only g w w' ∧ (Pl.Use n l u m → BBlk g n.rn (Pl.usd n l u m) w') := by
  have H := Lib.hid h
  have HL := Lib.hid hl
  have HR := Lib.hid hr
  have HG := Lib.hid hg
  have HGL := Lib.hid hgl
  have HUG := Lib.hid hug
  have HGA := Lib.hid hga
  have hrn := hr.r
  clear h hl hr hg hgl hga hug
  go_enter Tryz.func54, Tryz.ntmps54
  go_wp2_with fail
  go_loopw [8, 11] (fun _ iv wr => ∃ (k : Nat), k ≤ m ∧ iv = .int .i64 k ∧ Hid (Only g w wr) ∧ Hid (BBlk g n.rn (Pl.usd n l u k) wr) ∧ Hid (Pl.Use n l u k)) (fun _ iv _ => m - (intOf iv).toNat)
  case atStart => exact ⟨0, Nat.zero_le _, rfl, Only.refl _ _, by show BBlk _ _ _ _; rw [Pl.usd_zero]; exact HG.out, ⟨fun j hj => absurd hj (Nat.not_lt_zero _), fun j hj => absurd hj (Nat.not_lt_zero _)⟩⟩
  case round =>
    obtain ⟨k, hk, rfl, hO, hU, hP⟩ := hrel
    by_cases hlt : k < m
    · have hltz : (k : Int) < (m : Int) := by omega
      obtain ⟨b2, eb2, cl⟩ := (HL.out.same (fun b e hb => hO.out.block b hb (HGA.out (by omega) b e))).at1 hlt
      subst eb2
      by_cases q1 : l k < 0
      · have HE : Hid (¬ Pl.Use n l u m) := fun x => by have := x.rng k hlt; omega
        go_wp2_with fail
        go_ret
        exact ⟨by rw [dB_ff HE.out]; rfl, hO.out, fun x => absurd x HE.out⟩
      by_cases q2 : (n.rn : Int) ≤ l k
      · have HE : Hid (¬ Pl.Use n l u m) := fun x => by have := x.rng k hlt; omega
        go_wp2_with fail
        go_ret
        exact ⟨by rw [dB_ff HE.out]; rfl, hO.out, fun x => absurd x HE.out⟩
      obtain ⟨r, hrr⟩ : ∃ r : Nat, l k = (r : Int) := ⟨(l k).toNat, by omega⟩
      have hrl : r < n.rn := by omega
      have hrlz : (r : Int) < (n.rn : Int) := by omega
      rw [hrr] at cl q1 q2
      obtain ⟨b, eb, c0, c1, c2⟩ := (H.out.same (fun b e hb => hO.out.block b hb (HGL.out (by omega) b e))).at3 hrl
      subst eb
      have cu := World.rowIs.cell hU.out hrl
      have zu := World.rowIs.frozen hU.out r
      have zg := World.rowIs.lt hU.out
      have HRR := Lib.hid hrr
      clear hrr
      cases hux : Pl.usd n l u k r with
      | true =>
        have HE : Hid (¬ Pl.Use n l u m) := fun x => by
          unfold Pl.usd at hux
          simp at hux
          have hrr := HRR.out
          rcases hux with q | q
          · have q3 : (l k).toNat = r := by omega
            have hk2 := x.fresh k hlt (by rw [q3]; exact HUG.out r q)
            rw [q3, q] at hk2
            exact absurd hk2.1 (by simp)
          · obtain ⟨gd, j, hj, ej⟩ := dB_iff.1 q
            have hk2 := x.fresh k hlt (by rw [show (l k).toNat = r by omega]; exact gd)
            exact hk2.2 j hj (by omega)
        rw [hux] at cu
        go_wp2_with fail
        go_ret
        exact ⟨by rw [dB_ff HE.out]; rfl, hO.out, fun x => absurd x HE.out⟩
      | false =>
        rw [hux] at cu
        have HUX := Lib.hid hux
        have HN : Hid (Pl.Use n l u (k + 1)) := by
          have hrr := HRR.out
          refine ⟨fun j hj => ?_, fun j hj gd => ?_⟩
          · by_cases e : j = k
            · subst e; omega
            · exact hP.out.rng j (by omega)
          · by_cases e : j = k
            · subst e
              have q3 : (l j).toNat = r := by omega
              rw [q3] at gd ⊢
              unfold Pl.usd at hux
              simp at hux
              refine ⟨hux.1, fun i hi ei => ?_⟩
              have := hux.2
              rw [dB_tt ⟨gd, i, hi, by omega⟩] at this
              cases this
            · exact hP.out.fresh j (by omega) gd
        have HS : Hid (BBlk g n.rn (Pl.usd n l u (k + 1)) (wr.setCell ⟨g, r, none⟩ (.bool (dB (Pl.gd n r))))) := by
          show BBlk _ _ _ _
          rw [← Pl.usd_succ HRR.out hux]
          exact BBlk.set hU.out r _
        have HO1 : Hid (Only g w (wr.setCell ⟨g, r, none⟩ (.bool (dB (Pl.gd n r))))) := hO.out.set r _
        clear hux
        by_cases q5 : n.R (r * 3 + 2) = 1
        · have e5 : (n.R (r * 3 + 2) == 1) = true := by simp [q5]
          rw [dB_tt (show Pl.gd n r from q5)] at HS HO1
          clear q5
          go_wp2_with fail
          go_roundw
          case rel => exact ⟨k + 1, by omega, by go_num, HO1, HS, HN⟩
          case measure => simp [intOf]; omega
        · have e5 : (n.R (r * 3 + 2) == 1) = false := by simp [q5]
          rw [dB_ff (show ¬ Pl.gd n r from q5)] at HS HO1
          clear q5
          go_wp2_with fail
          go_roundw
          case rel => exact ⟨k + 1, by omega, by go_num, HO1, HS, HN⟩
          case measure => simp [intOf]; omega
    · obtain rfl : k = m := by omega
      go_wp2_with fail
      go_ret
      exact ⟨by rw [dB_tt hP.out]; rfl, hO.out, fun _ => hU.out⟩
end Go.Proofs.YtipmjobhegpdgaaGreatDoor
