/-
  The contracts of the model's tests of curves and stores.
-/
import Derived.Test.YtdpghhmcibiplaaStI1
namespace Go.Proofs.Ytdpghhmcibiplaa
open Go.RowKit Go.Deep

set_option maxRecDepth 100000 in
set_option maxHeartbeats 4000000 in
theorem sCurve_any (a : Option Addr) (n cap : Nat) (c : Nat → St.Pr) (w : World) (h : PrsAt a n c w) :
    Calls Try.prog 27 #[.slice a n cap] w fun e w' => BoolEnd (St.CurveOk n c) e ∧ Gr w w' := by
  by_cases hn1 : n < 2
  · have hz : (n : Int) < 2 := by omega
    go_enter Try.func27, Try.ntmps27
    go_wp2_with fail
    go_ret
    exact ⟨.ff (fun h => by have := h.1; omega), Gr.refl _⟩
  by_cases hn2 : 30 < n
  · have hz : ¬ (n : Int) < 2 := by omega
    have hz2 : (30 : Int) < (n : Int) := by omega
    go_enter Try.func27, Try.ntmps27
    go_wp2_with fail
    go_ret
    exact ⟨.ff (fun h => by have := h.1; omega), Gr.refl _⟩
  have hz : ¬ (n : Int) < 2 := by omega
  have hz2 : ¬ (30 : Int) < (n : Int) := by omega
  obtain ⟨b, rfl, hc⟩ := h.all (by omega)
  have H := Lib.hid hc
  clear hc h
  go_enter Try.func27, Try.ntmps27
  go_wp2_with fail
  go_loopw [3] (fun iv wr => ∃ (i : Nat), i ≤ n ∧ iv = .int .i64 i ∧ Hid (Gr w wr) ∧ Hid (∀ j, j < i → St.MarkOk (c j) ∧ St.Rises c j)) (fun iv _ => n - (intOf iv).toNat)
  case atStart => exact ⟨0, Nat.zero_le _, rfl, Gr.refl _, fun j hj => absurd hj (Nat.not_lt_zero _)⟩
  case round =>
    obtain ⟨i, hi, rfl, hG, hP⟩ := hrel
    by_cases hlt : i < n
    · have hltz : (i : Int) < (n : Int) := by omega
      obtain ⟨c0, c1⟩ := (H.out i hlt).block (hG.out.bel.block _ (H.out i hlt).lt)
      have HG : Hid (Gr w (wr.alloc (.cells #[.int .i64 (c i).a, .int .i64 (c i).b] 66))) := hG.out.alloc _
      have hlb : b < wr.heap.size := World.block_lt_of_cell? _ _ c0
      by_cases m1 : (c i).a < 0
      · go_wp2_with fail
        go_ret
        exact ⟨.ff (fun h => by have := (h.2 i hlt).1.1; omega), HG.out⟩
      by_cases m2 : 100000 < (c i).a
      · go_wp2_with fail
        go_ret
        exact ⟨.ff (fun h => by have := (h.2 i hlt).1.1; omega), HG.out⟩
      by_cases m3 : (c i).b < 0
      · go_wp2_with fail
        go_ret
        exact ⟨.ff (fun h => by have := (h.2 i hlt).1.2; omega), HG.out⟩
      by_cases m4 : 1000000000 < (c i).b
      · go_wp2_with fail
        go_ret
        exact ⟨.ff (fun h => by have := (h.2 i hlt).1.2; omega), HG.out⟩
      have hok : Hid (St.MarkOk (c i)) := ⟨⟨by omega, by omega⟩, ⟨by omega, by omega⟩⟩
      have next : St.Rises c i → Hid (∀ j, j < i + 1 → St.MarkOk (c j) ∧ St.Rises c j) := fun hr j hj => by
        by_cases e : j = i
        · subst e; exact ⟨hok.out, hr⟩
        · exact hP.out j (by omega)
      by_cases h0 : i = 0
      · subst h0
        have N1 := next (fun h => absurd h (Nat.lt_irrefl 0))
        clear next
        go_wp2_with fail
        go_quiet (fail)
        go_wp2_with fail
        go_roundw
        case rel => exact ⟨1, by omega, by go_num, HG.out.drewN _, N1⟩
        case measure => simp [intOf]; omega
      · have hz0 : (0 : Int) < (i : Int) := by omega
        have hp0 : 0 < i := by omega
        have hd0 : decide (0 < i) = true := by simpa using hp0
        have hz1 : ((i : Int) - 1).toNat = i - 1 := by omega
        have hz3 : ¬ (i : Int) - 1 < 0 := by omega
        have hz4 : (i : Int) - 1 < (n : Int) := by omega
        obtain ⟨d0, d1⟩ := (H.out (i - 1) (by omega)).block (hG.out.bel.block _ (H.out (i - 1) (by omega)).lt)
        by_cases hr1 : (c i).a ≤ (c (i - 1)).a
        · have hd1 : decide ((c i).a ≤ (c (i - 1)).a) = true := by simpa using hr1
          clear next
          go_wp2_with fail
          go_quiet (fail)
          go_wp2_with fail
          go_ret
          exact ⟨.ff (fun h => by have := (h.2 i hlt).2 (by omega); omega), HG.out.drewN _⟩
        · have hd1 : decide ((c i).a ≤ (c (i - 1)).a) = false := by simpa using hr1
          by_cases hr2 : (c i).b ≤ (c (i - 1)).b
          · have hd2 : decide ((c i).b ≤ (c (i - 1)).b) = true := by simpa using hr2
            clear next
            go_wp2_with fail
            go_quiet (fail)
            go_wp2_with fail
            go_ret
            exact ⟨.ff (fun h => by have := (h.2 i hlt).2 (by omega); omega), HG.out.drewN _⟩
          · have hd2 : decide ((c i).b ≤ (c (i - 1)).b) = false := by simpa using hr2
            have N1 := next (fun _ => ⟨by omega, by omega⟩)
            clear next
            go_wp2_with fail
            go_quiet (fail)
            go_wp2_with fail
            go_roundw
            case rel => exact ⟨i + 1, by omega, by go_num, HG.out.drewN _, N1⟩
            case measure => simp [intOf]; omega
    · obtain rfl : i = n := by omega
      go_wp2_with fail
      go_ret
      exact ⟨.tt ⟨⟨by omega, by omega⟩, hP.out⟩, hG.out⟩
set_option maxRecDepth 100000 in
set_option maxHeartbeats 2000000 in
theorem sFull_any (a : Option Addr) (n cap : Nat) (c : Nat → St.Pr) (ra : Option Addr) (rn rk : Nat) (v : Int) (w : World) (h : PrsAt a n c w) (hn : 1 ≤ n) (hn2 : n ≤ 30) :
    Calls Try.prog 28 #[stV a n cap ra rn rk v] w fun e w' => e = .returned (.int .i64 (St.full n c)) ∧ Gr w w' := by
  obtain ⟨b, rfl, hc⟩ := h.all (by omega)
  obtain ⟨d0, d1⟩ := hc (n - 1) (by omega)
  have hlb : b < w.heap.size := World.block_lt_of_cell? _ _ d0
  have hz1 : ((n : Int) - 1).toNat = n - 1 := by omega
  have hz3 : ¬ (n : Int) - 1 < 0 := by omega
  have hz4 : (n : Int) - 1 < (n : Int) := by omega
  have hz5 : (n : Int) ≤ 30 := by omega
  have HG : Hid (Gr w (w.alloc (.cells #[.slice (some ⟨b, 0, none⟩) n cap, .slice ra rn rk, .int .i64 v] 32))) := (Gr.refl _).alloc _
  clear hc h
  unfold St.full
  go_enter Try.func28, Try.ntmps28
  go_wp2_with fail
  go_ret
  exact ⟨rfl, HG.out⟩
theorem box3_gr {w W wr : World} {a b c : Value} {t : TypeId} (hW : W = w.alloc (.cells #[a, b, c] t)) (hG : Gr W wr) : wr.cell? ⟨w.heap.size, 0, none⟩ = some a ∧ wr.cell? ⟨w.heap.size, 1, none⟩ = some b ∧ wr.cell? ⟨w.heap.size, 2, none⟩ = some c := by
  have hlt : w.heap.size < W.heap.size := by rw [hW]; simp
  obtain ⟨h0, h1, h2⟩ := box3 w a b c t
  rw [← hW] at h0 h1 h2
  exact ⟨(hG.bel.cell (p := ⟨w.heap.size, 0, none⟩) hlt).trans h0, (hG.bel.cell (p := ⟨w.heap.size, 1, none⟩) hlt).trans h1, (hG.bel.cell (p := ⟨w.heap.size, 2, none⟩) hlt).trans h2⟩
set_option maxRecDepth 100000 in
set_option maxHeartbeats 4000000 in
theorem sRight_any (ca : Option Addr) (cn ck : Nat) (c : Nat → St.Pr) (ra : Option Addr) (rn rk : Nat) (r : Nat → St.Pr) (v : Int) (w : World) (h : StAt ca cn c ra rn r w) :
    Calls Try.prog 13 #[stV ca cn ck ra rn rk v] w fun e w' => BoolEnd (St.StoreOk cn c rn r v) e ∧ Gr w w' := by
  obtain ⟨b1, h1⟩ := bool_of (St.CurveOk cn c)
  have K1 := Lib.hid h1
  obtain ⟨W, hW⟩ : ∃ W, W = w.alloc (.cells #[.slice ca cn ck, .slice ra rn rk, .int .i64 v] 32) := ⟨_, rfl⟩
  have hGW : Gr w W := by rw [hW]; exact (Gr.refl _).alloc _
  have HGW := Lib.hid hGW
  have HW := Lib.hid hW
  have H : Hid (StAt ca cn c ra rn r W) := h.gr hGW
  obtain ⟨q0, q1, q2⟩ := box3_gr hW (Gr.refl W)
  clear hGW h1 h q0 q1 q2 hW
  go_enter Try.func13, Try.ntmps13
  go_wp2_with fail
  rw [← HW.out]
  refine ((sCurve_any ca cn ck c _ H.out.cu).mono fun e w' ⟨g1, g2⟩ => ⟨g1.eq K1.out, g2⟩ : Calls Try.prog 27 #[.slice ca cn ck] W fun e w' => e = .returned (.bool b1) ∧ Gr W w').mono ?_
  rintro e w1 ⟨rfl, hG1⟩
  have HG1 := Lib.hid hG1
  obtain ⟨p0, p1, p2⟩ := box3_gr HW.out hG1
  clear hG1
  cases b1 with
  | false =>
    go_wp2_with fail
    go_ret
    exact ⟨.ff (fun h => by have := K1.out.2 h.1; cases this), HGW.out.trans HG1.out⟩
  | true =>
  have hcu : Hid (St.CurveOk cn c) := Lib.hid (by have := K1.out; simpa using this)
  by_cases hn1 : rn < 1
  · have hz : (rn : Int) < 1 := by omega
    go_wp2_with fail
    go_ret
    exact ⟨.ff (fun h => by have := h.2.1.1; omega), HGW.out.trans HG1.out⟩
  have hz : ¬ (rn : Int) < 1 := by omega
  by_cases hn2 : 20 < rn
  · have hz2 : (20 : Int) < (rn : Int) := by omega
    go_wp2_with fail
    go_ret
    exact ⟨.ff (fun h => by have := h.2.1.1; omega), HGW.out.trans HG1.out⟩
  have hz2 : ¬ (20 : Int) < (rn : Int) := by omega
  obtain ⟨b, hrab, hru⟩ := H.out.ru.all (by omega)
  subst hrab
  have HR := Lib.hid hru
  clear hru
  go_wp2_with fail
  clear p0 p1 p2
  go_loopw [3] (fun iv wr => ∃ (i : Nat), i ≤ rn ∧ iv = .int .i64 i ∧ Hid (Gr W wr) ∧ Hid (∀ j, j < i → (St.RuleOk (r j) ∧ St.Up r j) ∧ (j = 0 → (r j).a = 0))) (fun iv _ => rn - (intOf iv).toNat)
  case atStart => exact ⟨0, Nat.zero_le _, rfl, HG1, fun j hj => absurd hj (Nat.not_lt_zero _)⟩
  case round =>
    obtain ⟨i, hi, rfl, hG, hP⟩ := hrel
    clear HG1
    obtain ⟨p0, p1, p2⟩ := box3_gr HW.out hG.out
    have hsz : w.heap.size < wr.heap.size := World.block_lt_of_cell? _ _ p0
    by_cases hlt : i < rn
    · have hltz : (i : Int) < (rn : Int) := by omega
      obtain ⟨c0, c1⟩ := (HR.out i hlt).block (hG.out.bel.block _ (HR.out i hlt).lt)
      have HG : Hid (Gr w (wr.alloc (.cells #[.int .i64 (r i).a, .int .i64 (r i).b] 62))) := (HGW.out.trans hG.out).alloc _
      have HG2 : Hid (Gr W (wr.alloc (.cells #[.int .i64 (r i).a, .int .i64 (r i).b] 62))) := hG.out.alloc _
      have hlb : b < wr.heap.size := World.block_lt_of_cell? _ _ c0
      have bad : ¬ ((St.RuleOk (r i) ∧ St.Up r i) ∧ (i = 0 → (r i).a = 0)) → Hid (¬ St.StoreOk cn c rn r v) := fun hb h => hb ⟨h.2.1.2.2 i hlt, fun e => by subst e; exact h.2.1.2.1⟩
      have next : ((St.RuleOk (r i) ∧ St.Up r i) ∧ (i = 0 → (r i).a = 0)) → Hid (∀ j, j < i + 1 → (St.RuleOk (r j) ∧ St.Up r j) ∧ (j = 0 → (r j).a = 0)) := fun hr j hj => by
        by_cases e : j = i
        · subst e; exact hr
        · exact hP.out j (by omega)
      go_wp2_with fail
      by_cases m1 : (r i).a < 0
      · have e1 : decide ((r i).a < 0) = true := by simpa using m1
        have B := bad (fun h => by have := h.1.1.1; omega)
        clear bad next
        go_quiet (fail)
        go_wp2_with fail
        go_ret
        exact ⟨.ff B.out, HG.out.drewN _⟩
      have e1 : decide ((r i).a < 0) = false := by simpa using m1
      by_cases m2 : 100 < (r i).a
      · have e2 : decide (100 < (r i).a) = true := by simpa using m2
        have B := bad (fun h => by have := h.1.1.1; omega)
        clear bad next
        go_quiet (fail)
        go_wp2_with fail
        go_ret
        exact ⟨.ff B.out, HG.out.drewN _⟩
      have e2 : decide (100 < (r i).a) = false := by simpa using m2
      by_cases m3 : (r i).b < 0
      · have e3 : decide ((r i).b < 0) = true := by simpa using m3
        have B := bad (fun h => by have := h.1.1.2; omega)
        clear bad next
        go_quiet (fail)
        go_wp2_with fail
        go_ret
        exact ⟨.ff B.out, HG.out.drewN _⟩
      have e3 : decide ((r i).b < 0) = false := by simpa using m3
      by_cases m4 : 1000 < (r i).b
      · have e4 : decide (1000 < (r i).b) = true := by simpa using m4
        have B := bad (fun h => by have := h.1.1.2; omega)
        clear bad next
        go_quiet (fail)
        go_wp2_with fail
        go_ret
        exact ⟨.ff B.out, HG.out.drewN _⟩
      have e4 : decide (1000 < (r i).b) = false := by simpa using m4
      have hok : Hid (St.RuleOk (r i)) := ⟨⟨by omega, by omega⟩, ⟨by omega, by omega⟩⟩
      by_cases h0 : i = 0
      · subst h0
        by_cases ha : (r 0).a = 0
        · have N := next ⟨⟨hok.out, fun h => absurd h (Nat.lt_irrefl 0)⟩, fun _ => ha⟩
          have ha2 : ((r 0).a == 0) = true := by simp [ha]
          clear bad next ha
          go_quiet (fail)
          go_wp2_with fail
          go_roundw
          case rel => exact ⟨1, by omega, by go_num, HG2.out.drewN _, N⟩
          case measure => simp [intOf]; omega
        · have B := bad (fun h => ha (h.2 rfl))
          have ha2 : ((r 0).a == 0) = false := by simp [ha]
          clear bad next ha
          go_quiet (fail)
          go_wp2_with fail
          go_ret
          exact ⟨.ff B.out, HG.out.drewN _⟩
      · have hz0 : (0 : Int) < (i : Int) := by omega
        have hp0 : 0 < i := by omega
        have hd0 : decide (0 < i) = true := by simpa using hp0
        have hi0 : ((i : Int) == 0) = false := by simp; omega
        by_cases ha : (r i).a = 0
        · have B : Hid (¬ St.StoreOk cn c rn r v) := fun h => by
            have h1 := St.up_all h.2.1 i 0 (by omega) hlt
            have h2 := h.2.1.2.1
            omega
          have ha2 : ((r i).a == 0) = true := by simp [ha]
          clear bad next ha
          go_quiet (fail)
          go_wp2_with fail
          go_ret
          exact ⟨.ff B.out, HG.out.drewN _⟩
        · have ha2 : ((r i).a == 0) = false := by simp [ha]
          have hz1 : ((i : Int) - 1).toNat = i - 1 := by omega
          have hz3 : ¬ (i : Int) - 1 < 0 := by omega
          have hz4 : (i : Int) - 1 < (rn : Int) := by omega
          obtain ⟨d0, d1⟩ := (HR.out (i - 1) (by omega)).block (hG.out.bel.block _ (HR.out (i - 1) (by omega)).lt)
          clear ha
          by_cases hr1 : (r i).a ≤ (r (i - 1)).a
          · have B := bad (fun h => by have := h.1.2 hp0; omega)
            have hd1 : decide ((r i).a ≤ (r (i - 1)).a) = true := by simpa using hr1
            clear bad next
            go_quiet (fail)
            go_wp2_with fail
            go_ret
            exact ⟨.ff B.out, HG.out.drewN _⟩
          · have N := next ⟨⟨hok.out, fun _ => by omega⟩, fun e => absurd e h0⟩
            have hd1 : decide ((r i).a ≤ (r (i - 1)).a) = false := by simpa using hr1
            clear bad next
            go_quiet (fail)
            go_wp2_with fail
            go_roundw
            case rel => exact ⟨i + 1, by omega, by go_num, HG2.out.drewN _, N⟩
            case measure => simp [intOf]; omega
    · obtain rfl : i = rn := by omega
      have hro : Hid (St.RulesOk i r) := ⟨⟨by omega, by omega⟩, (hP.out 0 (by omega)).2 rfl, fun j hj => (hP.out j hj).1⟩
      clear hP
      have hsz2 : w.heap.size < wr.heap.size := hsz
      have q0 := cell_grown (w := wr) (a := ⟨w.heap.size, 0, none⟩) hsz p0
      have q1 := cell_grown (w := wr) (a := ⟨w.heap.size, 1, none⟩) hsz p1
      have q2 := cell_grown (w := wr) (a := ⟨w.heap.size, 2, none⟩) hsz p2
      have fu : ∀ n os, Calls Try.prog 28 #[stV ca cn ck (some ⟨b, 0, none⟩) i rk v] (Go.Sort.grow (wr.drewN n) os) fun e w'' => e = .returned (.int .i64 (St.full cn c)) ∧ ∃ p : GrownBy, w'' = Go.Sort.grow (wr.drewN p.n) p.os := fun n os =>
        grown_of_gr ((sFull_any ca cn ck c _ i rk v _ ((H.out.gr hG.out).gr (gr_of n os)).cu (by have := hcu.out.1; omega) (by have := hcu.out.1; omega)).mono fun e w' ⟨g1, g2⟩ => ⟨g1, g2⟩)
      have FU := Lib.hid fu
      clear fu
      go_wp2_with fail
      have hmix : Try.prog.follows Departure.mixedOrders = true := by kernel_rfl
      by_cases hv : 0 ≤ v
      · have hd : decide (0 ≤ v) = true := by simpa using hv
        go_quiet_grown (first | (go_at_call 28; exact FU.out _ _))
        go_wp2_with fail
        go_ret
        refine ⟨⟨_, rfl, ?_⟩, (HGW.out.trans hG.out).trans (gr_of _ _)⟩
        simp only [decide_eq_true_eq]
        exact ⟨fun h => ⟨hcu.out, hro.out, hv, h⟩, fun h => h.2.2.2⟩
      · have hd : decide (0 ≤ v) = false := by simpa using hv
        go_quiet_grown (first | (go_at_call 28; exact FU.out _ _))
        go_wp2_with fail
        go_ret
        exact ⟨.ff (fun h => by have := h.2.2.1; omega), (HGW.out.trans hG.out).trans (gr_of _ _)⟩
end Go.Proofs.Ytdpghhmcibiplaa
