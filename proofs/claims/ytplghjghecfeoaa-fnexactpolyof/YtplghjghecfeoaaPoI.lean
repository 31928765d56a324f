/-
  The program's PolyOf.
-/
import Derived.Test.YtplghjghecfeoaaPoCn
namespace Go.Proofs.Ytplghjghecfeoaa
open Go.RowKit Go.Deep

attribute [local go_sem] lrun_store_float lrun_store_complex
open Classical in
/-- How many coefs PolyOf tells. -/
noncomputable def Fl.pofLen (r s : Nat → Nat) (n : Nat) : Nat := if n ≤ 15 ∧ Fl.rights r s n then n + 1 else 0
theorem pofLen_no {r s : Nat → Nat} {n : Nat} (h : ¬ (n ≤ 15 ∧ Fl.rights r s n)) : Fl.pofLen r s n = 0 := by unfold Fl.pofLen; rw [if_neg h]
theorem pofLen_yes {r s : Nat → Nat} {n : Nat} (h : n ≤ 15 ∧ Fl.rights r s n) : Fl.pofLen r s n = n + 1 := by unfold Fl.pofLen; rw [if_pos h]
set_option maxRecDepth 100000 in
set_option maxHeartbeats 4000000 in
theorem implPof_any (a : Option Addr) (n cap : Nat) (r s : Nat → Nat) (w : World) (h : CnAt a n (fun i => (r i, s i)) w) (hn : n ≤ 4194304) :
    Calls Try.prog 28 #[.slice a n cap] w fun e w' => (∃ v, e = .returned v ∧ OwnC w.heap.size v (Fl.pofLen r s n) (Fl.pf r s n) w') ∧ Below w.heap.size w w' := by
  by_cases hbig : 15 < n
  · have hz : (16 : Int) ≤ (n : Int) := by omega
    have HL := Lib.hid (pofLen_no (r := r) (s := s) (n := n) (fun h => by omega))
    clear h
    go_enter Try.func28, Try.ntmps28
    go_wp2_with fail
    go_ret
    exact ⟨⟨_, rfl, by rw [HL.out]; exact World.ownsRow_nil _ _ _ _⟩, Below.refl _ _⟩
  have hz : ¬ (16 : Int) ≤ (n : Int) := by omega
  have H := Lib.hid h
  clear h
  obtain ⟨W1, hW1⟩ : ∃ W1, W1 = w.alloc (.cells #[.complex .f64 4607182418800017408 0] 51) := ⟨_, rfl⟩
  have HQ0 : Hid (CxRow w.heap.size 1 (Fl.pf r s 0) W1 ∧ Below w.heap.size w W1) := by
    refine ⟨⟨1, Nat.le_refl _, rowL [.complex .f64 4607182418800017408 0], by rw [hW1]; exact rowL_alloc w [.complex .f64 4607182418800017408 0] _, fun i hi => ?_⟩, by rw [hW1]; exact bel_alloc _ _⟩
    obtain rfl : i = 0 := by omega
    rfl
  have HW1 := Lib.hid hW1
  clear hW1
  go_enter Try.func28, Try.ntmps28
  go_wp2_with fail
  rw [← HW1.out]
  clear HW1
  go_loopw [3, 16] (fun cv iv wr => ∃ i g c : Nat, i ≤ n ∧ iv = .int .i64 i ∧ cv = .slice (some ⟨g, 0, none⟩) (i + 1) c ∧ Hid (Fl.rights r s i) ∧ Hid (CxRow g (i + 1) (Fl.pf r s i) wr ∧ Below w.heap.size w wr)) (fun _ iv _ => n - (intOf iv).toNat)
  case atStart => exact ⟨0, w.heap.size, 1, Nat.zero_le _, rfl, rfl, fun i hi => absurd hi (by omega), HQ0⟩
  case round =>
    clear HQ0
    obtain ⟨i, g, c, hi, rfl, rfl, HRT, HQ⟩ := hrel
    by_cases hlt : i < n
    · have hltz : (i : Int) < (n : Int) := by omega
      have hi00 : (0 : Int) ≤ (i : Int) := by omega
      obtain ⟨ga, rfl, k0, k1⟩ := (H.out.below HQ.out.2).at_ hlt
      obtain ⟨W2, hW2⟩ : ∃ W2, W2 = wr.alloc (.cells #[.float .f64 (r i), .float .f64 (s i)] 25) := ⟨_, rfl⟩
      have hb : Below wr.heap.size wr W2 := by rw [hW2]; exact bel_alloc _ _
      replace HQ : Hid (CxRow g (i + 1) (Fl.pf r s i) W2 ∧ Below w.heap.size w W2) := ⟨HQ.out.1.below hb, HQ.out.2.trans (hb.mono HQ.out.2.size)⟩
      have HW2 := Lib.hid hW2
      clear hb hW2
      go_wp2_with fail
      rw [← HW2.out]
      clear HW2 k0 k1
      refine (inside_any _ _ _).mono ?_
      rintro e w3 ⟨rfl, hb⟩
      replace HQ : Hid (CxRow g (i + 1) (Fl.pf r s i) w3 ∧ Below w.heap.size w w3) := ⟨HQ.out.1.below hb, HQ.out.2.trans (hb.mono HQ.out.2.size)⟩
      clear hb
      go_wp2_with fail
      refine (cright_any _ _ _).mono ?_
      rintro e w4 ⟨rfl, rfl⟩
      cases hr : Fl.rightB (r i) (s i)
      · have HL := Lib.hid (pofLen_no (r := r) (s := s) (n := n) (fun h => by have := h.2 i hlt; rw [hr] at this; cases this))
        go_wp2_with fail
        go_ret
        exact ⟨⟨_, rfl, by rw [HL.out]; exact World.ownsRow_nil _ _ _ _⟩, HQ.out.2⟩
      · have HRT2 : Hid (Fl.rights r s (i + 1)) := fun j hj => by
          by_cases e : j = i
          · subst e; exact hr
          · exact HRT.out j (by omega)
        go_wp2_with fail
        refine (timesF_any g i c r s _ HQ.out.1 HRT2.out (by omega)).mono ?_
        rintro e w5 ⟨rfl, hq, hb⟩
        have HQ2 : Hid (CxRow w4.heap.size (i + 1 + 1) (Fl.pf r s (i + 1)) w5 ∧ Below w.heap.size w w5) := ⟨hq, HQ.out.2.trans (hb.mono HQ.out.2.size)⟩
        clear hb hq HQ
        go_wp2_with fail
        go_roundw
        case rel => exact ⟨i + 1, _, _, by omega, by go_num, rfl, HRT2, HQ2⟩
        case measure => simp [intOf]; omega
    · obtain rfl : i = n := by omega
      have HL := Lib.hid (pofLen_yes ⟨(by omega : i ≤ 15), HRT.out⟩)
      obtain ⟨N, hN⟩ : ∃ N, N = i + 1 := ⟨_, rfl⟩
      have HN := Lib.hid hN
      rw [← hN] at HQ HL ⊢
      have hN16 : N ≤ 16 := by omega
      clear hN
      have hmk := mk_Cn N (by omega)
      obtain ⟨W3, hW3⟩ : ∃ W3, W3 = wr.alloc (.cells (madeCells #[.float .f64 0, .float .f64 0] (N * 2)) 25) := ⟨_, rfl⟩
      have hb3 : Below wr.heap.size wr W3 := by rw [hW3]; exact bel_alloc _ _
      obtain ⟨g7, hg7⟩ : ∃ g7, g7 = wr.heap.size := ⟨_, rfl⟩
      have HS3 : Hid (CnPart g7 N 0 (Fl.pf r s i) W3 ∧ CxRow g N (Fl.pf r s i) W3 ∧ Below w.heap.size w W3) := ⟨⟨_, by rw [hW3, hg7]; exact made_cn wr N, fun j hj => absurd hj (by omega)⟩, HQ.out.1.below hb3, HQ.out.2.trans (hb3.mono HQ.out.2.size)⟩
      have HG7 : Hid (w.heap.size ≤ g7 ∧ g < g7) := ⟨by rw [hg7]; exact HQ.out.2.size, by rw [hg7]; exact HQ.out.1.lt⟩
      have HW3 := Lib.hid hW3
      have HGE := Lib.hid hg7
      clear hW3 hb3 hg7
      go_wp2_with fail
      rw [← HW3.out]
      try rw [← HGE.out]
      clear HW3 HGE hmk HQ
      go_loopw [34] (fun iv wx => ∃ k : Nat, k ≤ N ∧ iv = .int .i64 k ∧ Hid (CnPart g7 N k (Fl.pf r s i) wx ∧ CxRow g N (Fl.pf r s i) wx ∧ Below w.heap.size w wx)) (fun iv _ => N - (intOf iv).toNat)
      case atStart => exact ⟨0, Nat.zero_le _, rfl, HS3⟩
      case round =>
        clear HS3
        obtain ⟨k, hk, rfl, HQ⟩ := hrel
        by_cases hlt2 : k < N
        · have hltz2 : (k : Int) < (N : Int) := by omega
          have hk00 : (0 : Int) ≤ (k : Int) := by omega
          have c0 : World.cell? _ ⟨g, k, none⟩ = some (.complex .f64 (Fl.pf r s i k).1 (Fl.pf r s i k).2) := HQ.out.2.1.cell hlt2
          go_wp2_with fail
          clear c0
          refine (tell_any _ _ _).mono ?_
          rintro e w8 ⟨rfl, hb⟩
          have hP1 := HQ.out.1.below hb
          have HX1 := Lib.hid (HQ.out.2.1.below hb)
          have HB1 : Hid (Below w.heap.size w w8) := HQ.out.2.2.trans (hb.mono HQ.out.2.2.size)
          have HP2 := Lib.hid hP1.put
          obtain ⟨⟨x0, x1, y0, y1⟩, ⟨z0, z1⟩, hz7⟩ := hP1.at_ hlt2
          clear hP1 hb HQ
          go_wp2_with fail
          go_roundw
          case rel =>
            have h7 := HG7.out
            refine ⟨k + 1, by omega, by go_num, HP2.out, ?_, (HB1.out.setCell (p := ⟨g7, _, none⟩) h7.1 _).setCell (p := ⟨g7, _, none⟩) h7.1 _⟩
            obtain ⟨M, m1, F, m2, m3⟩ := HX1.out
            exact ⟨M, m1, F, (m2.setOther (a := ⟨g7, _, none⟩) (by show g ≠ g7; omega) _).setOther (a := ⟨g7, _, none⟩) (by show g ≠ g7; omega) _, m3⟩
          case measure => simp [intOf]; omega
        · obtain rfl : k = N := by omega
          go_wp2_with fail
          go_ret
          obtain ⟨F, q1, q2⟩ := HQ.out.1
          exact ⟨⟨_, rfl, by rw [HL.out]; exact rowC_of q1 (Nat.le_refl _) (by unfold maxLen; omega) HG7.out.1 q2⟩, HQ.out.2.2⟩
end Go.Proofs.Ytplghjghecfeoaa
