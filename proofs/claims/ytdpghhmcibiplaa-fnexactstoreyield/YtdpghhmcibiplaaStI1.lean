/-
  The contracts of the program's tests of curves, rules, flows and stores.
-/
import Derived.Test.YtdpghhmcibiplaaStMem
import Derived.Test.YtdpghhmcibiplaaAw
import Derived.Shelf.SlSortCmp.QuietGrown
namespace Go.Proofs.Ytdpghhmcibiplaa
open Go.RowKit Go.Deep

set_option maxHeartbeats 400000 in
theorem within_any (x m : Int) (b : Bool) (hb : b = true ↔ (0 ≤ x ∧ x ≤ m)) (w : World) :
    Calls Try.prog 34 #[.int .i64 x, .int .i64 m] w fun e w' => e = .returned (.bool b) ∧ w' = w := by
  by_cases h1 : 0 ≤ x
  · by_cases h2 : x ≤ m
    · obtain rfl : b = true := hb.2 ⟨h1, h2⟩
      go_enter Try.func34, Try.ntmps34
      go_wp2_with fail
      go_ret
      exact ⟨rfl, rfl⟩
    · obtain rfl : b = false := by
        cases b with
        | false => rfl
        | true => exact absurd (hb.1 rfl).2 h2
      go_enter Try.func34, Try.ntmps34
      go_wp2_with fail
      go_ret
      exact ⟨rfl, rfl⟩
  · obtain rfl : b = false := by
      cases b with
      | false => rfl
      | true => exact absurd (hb.1 rfl).1 h1
    go_enter Try.func34, Try.ntmps34
    go_wp2_with fail
    go_ret
    exact ⟨rfl, rfl⟩
theorem flows_any (a : Option Addr) (m cap : Nat) (f : Nat → Int) (w : World) (h : IntsAt a m f w) (hm : m ≤ 4194304) :
    Calls Try.prog 19 #[.slice a m cap] w fun e w' => BoolEnd (St.FlowsOk m f) e ∧ w' = w :=
  (flows_raw a m cap f w h hm).mono fun _ _ ⟨⟨b, he, hb⟩, hw⟩ => ⟨⟨b, he, hb⟩, hw⟩
set_option maxRecDepth 100000 in
set_option maxHeartbeats 2000000 in
theorem curve_any (a : Option Addr) (n cap : Nat) (c : Nat → St.Pr) (w : World) (h : PrsAt a n c w) :
    Calls Try.prog 32 #[.slice a n cap] w fun e w' => BoolEnd (St.CurveOk n c) e ∧ Gr w w' := by
  by_cases hn1 : n < 2
  · have hz : (n : Int) < 2 := by omega
    go_enter Try.func32, Try.ntmps32
    go_wp2_with fail
    go_ret
    exact ⟨.ff (fun h => by have := h.1; omega), Gr.refl _⟩
  by_cases hn2 : 30 < n
  · have hz : ¬ (n : Int) < 2 := by omega
    have hz2 : (30 : Int) < (n : Int) := by omega
    go_enter Try.func32, Try.ntmps32
    go_wp2_with fail
    go_ret
    exact ⟨.ff (fun h => by have := h.1; omega), Gr.refl _⟩
  have hz : ¬ (n : Int) < 2 := by omega
  have hz2 : ¬ (30 : Int) < (n : Int) := by omega
  obtain ⟨b, rfl, hc⟩ := h.all (by omega)
  have H := Lib.hid hc
  clear hc h
  go_enter Try.func32, Try.ntmps32
  go_wp2_with fail
  go_loopw [15] (fun iv wr => ∃ (i : Nat), i ≤ n ∧ iv = .int .i64 i ∧ Hid (Gr w wr) ∧ Hid (∀ j, j < i → St.MarkOk (c j) ∧ St.Rises c j)) (fun iv _ => n - (intOf iv).toNat)
  case atStart => exact ⟨0, Nat.zero_le _, rfl, Gr.refl _, fun j hj => absurd hj (Nat.not_lt_zero _)⟩
  case round =>
    obtain ⟨i, hi, rfl, hG, hP⟩ := hrel
    by_cases hlt : i < n
    · have hltz : (i : Int) < (n : Int) := by omega
      obtain ⟨c0, c1⟩ := (H.out i hlt).block (hG.out.bel.block _ (H.out i hlt).lt)
      have HG : Hid (Gr w (wr.alloc (.cells #[.int .i64 (c i).a, .int .i64 (c i).b] 66))) := hG.out.alloc _
      obtain ⟨b1, h1⟩ := bool_of (0 ≤ (c i).a ∧ (c i).a ≤ 100000)
      obtain ⟨b2, h2⟩ := bool_of (0 ≤ (c i).b ∧ (c i).b ≤ 1000000000)
      have K1 := Lib.hid h1
      have K2 := Lib.hid h2
      have hlb : b < wr.heap.size := World.block_lt_of_cell? _ _ c0
      clear h1 h2
      go_wp2_with fail
      refine (within_any _ _ b1 K1.out _).mono ?_
      rintro e w1 ⟨rfl, rfl⟩
      cases b1 with
      | false =>
        go_wp2_with fail
        go_ret
        exact ⟨.ff (fun h => by have := K1.out.2 (h.2 i hlt).1.1; cases this), HG.out⟩
      | true =>
        go_wp2_with fail
        refine (within_any _ _ b2 K2.out _).mono ?_
        rintro e w1 ⟨rfl, rfl⟩
        cases b2 with
        | false =>
          go_wp2_with fail
          go_ret
          exact ⟨.ff (fun h => by have := K2.out.2 (h.2 i hlt).1.2; cases this), HG.out⟩
        | true =>
          have hok : Hid (St.MarkOk (c i)) := ⟨(by have := K1.out; simpa using this), (by have := K2.out; simpa using this)⟩
          have next : St.Rises c i → Hid (∀ j, j < i + 1 → St.MarkOk (c j) ∧ St.Rises c j) := fun hr j hj => by
            by_cases e : j = i
            · subst e; exact ⟨hok.out, hr⟩
            · exact hP.out j (by omega)
          by_cases h0 : i = 0
          · subst h0
            have N1 := next (fun h => absurd h (Nat.lt_irrefl 0))
            clear next
            go_wp2_with fail
            go_quiet (fail)
            go_wp2_with fail
            go_roundw
            case rel => exact ⟨1, by omega, by go_num, HG.out.drewN _, N1⟩
            case measure => simp [intOf]; omega
          · have hz0 : (0 : Int) < (i : Int) := by omega
            have hp0 : 0 < i := by omega
            have hd0 : decide (0 < i) = true := by simpa using hp0
            have hz1 : ((i : Int) - 1).toNat = i - 1 := by omega
            have hz3 : ¬ (i : Int) - 1 < 0 := by omega
            have hz4 : (i : Int) - 1 < (n : Int) := by omega
            obtain ⟨d0, d1⟩ := (H.out (i - 1) (by omega)).block (hG.out.bel.block _ (H.out (i - 1) (by omega)).lt)
            clear c0 c1
            by_cases hr1 : (c i).a ≤ (c (i - 1)).a
            · have hd1 : decide ((c i).a ≤ (c (i - 1)).a) = true := by simpa using hr1
              clear next
              go_wp2_with fail
              go_quiet (fail)
              go_wp2_with fail
              go_ret
              exact ⟨.ff (fun h => by have := (h.2 i hlt).2 (by omega); omega), HG.out.drewN _⟩
            · have hd1 : decide ((c i).a ≤ (c (i - 1)).a) = false := by simpa using hr1
              by_cases hr2 : (c i).b ≤ (c (i - 1)).b
              · have hd2 : decide ((c i).b ≤ (c (i - 1)).b) = true := by simpa using hr2
                clear next
                go_wp2_with fail
                go_quiet (fail)
                go_wp2_with fail
                go_ret
                exact ⟨.ff (fun h => by have := (h.2 i hlt).2 (by omega); omega), HG.out.drewN _⟩
              · have hd2 : decide ((c i).b ≤ (c (i - 1)).b) = false := by simpa using hr2
                have N1 := next (fun _ => ⟨by omega, by omega⟩)
                clear next
                go_wp2_with fail
                go_quiet (fail)
                go_wp2_with fail
                go_roundw
                case rel => exact ⟨i + 1, by omega, by go_num, HG.out.drewN _, N1⟩
                case measure => simp [intOf]; omega
    · obtain rfl : i = n := by omega
      go_wp2_with fail
      go_ret
      exact ⟨.tt ⟨⟨by omega, by omega⟩, hP.out⟩, hG.out⟩
set_option maxRecDepth 100000 in
set_option maxHeartbeats 2000000 in
theorem rules_any (a : Option Addr) (n cap : Nat) (c : Nat → St.Pr) (w : World) (h : PrsAt a n c w) :
    Calls Try.prog 33 #[.slice a n cap] w fun e w' => BoolEnd (St.RulesOk n c) e ∧ Gr w w' := by
  by_cases hn1 : n < 1
  · have hz : (n : Int) < 1 := by omega
    go_enter Try.func33, Try.ntmps33
    go_wp2_with fail
    go_ret
    exact ⟨.ff (fun h => by have := h.1; omega), Gr.refl _⟩
  by_cases hn2 : 20 < n
  · have hz : ¬ (n : Int) < 1 := by omega
    have hz2 : (20 : Int) < (n : Int) := by omega
    go_enter Try.func33, Try.ntmps33
    go_wp2_with fail
    go_ret
    exact ⟨.ff (fun h => by have := h.1; omega), Gr.refl _⟩
  have hz : ¬ (n : Int) < 1 := by omega
  have hz2 : ¬ (20 : Int) < (n : Int) := by omega
  have hzp : (0 : Int) < (n : Int) := by omega
  obtain ⟨b, rfl, hc⟩ := h.all (by omega)
  have H := Lib.hid hc
  have x0 := (hc 0 (by omega)).1
  simp only [Nat.zero_mul] at x0
  clear hc h
  by_cases hf : (c 0).a = 0
  case neg =>
    have hf2 : ((c 0).a == 0) = false := by simp [hf]
    go_enter Try.func33, Try.ntmps33
    go_wp2_with fail
    go_ret
    exact ⟨.ff (fun h => hf h.2.1), Gr.refl _⟩
  have HF := Lib.hid hf
  rw [hf] at x0
  clear hf
  go_enter Try.func33, Try.ntmps33
  go_wp2_with fail
  clear x0
  go_loopw [22] (fun iv wr => ∃ (i : Nat), i ≤ n ∧ iv = .int .i64 i ∧ Hid (Gr w wr) ∧ Hid (∀ j, j < i → St.RuleOk (c j) ∧ St.Up c j)) (fun iv _ => n - (intOf iv).toNat)
  case atStart => exact ⟨0, Nat.zero_le _, rfl, Gr.refl _, fun j hj => absurd hj (Nat.not_lt_zero _)⟩
  case round =>
    obtain ⟨i, hi, rfl, hG, hP⟩ := hrel
    by_cases hlt : i < n
    · have hltz : (i : Int) < (n : Int) := by omega
      obtain ⟨c0, c1⟩ := (H.out i hlt).block (hG.out.bel.block _ (H.out i hlt).lt)
      have HG : Hid (Gr w (wr.alloc (.cells #[.int .i64 (c i).a, .int .i64 (c i).b] 62))) := hG.out.alloc _
      obtain ⟨b1, h1⟩ := bool_of (0 ≤ (c i).a ∧ (c i).a ≤ 100)
      obtain ⟨b2, h2⟩ := bool_of (0 ≤ (c i).b ∧ (c i).b ≤ 1000)
      have K1 := Lib.hid h1
      have K2 := Lib.hid h2
      have hlb : b < wr.heap.size := World.block_lt_of_cell? _ _ c0
      clear h1 h2
      go_wp2_with fail
      refine (within_any _ _ b1 K1.out _).mono ?_
      rintro e w1 ⟨rfl, rfl⟩
      cases b1 with
      | false =>
        go_wp2_with fail
        go_ret
        exact ⟨.ff (fun h => by have := K1.out.2 (h.2.2 i hlt).1.1; cases this), HG.out⟩
      | true =>
        go_wp2_with fail
        refine (within_any _ _ b2 K2.out _).mono ?_
        rintro e w1 ⟨rfl, rfl⟩
        cases b2 with
        | false =>
          go_wp2_with fail
          go_ret
          exact ⟨.ff (fun h => by have := K2.out.2 (h.2.2 i hlt).1.2; cases this), HG.out⟩
        | true =>
          have hok : Hid (St.RuleOk (c i)) := ⟨(by have := K1.out; simpa using this), (by have := K2.out; simpa using this)⟩
          have next : St.Up c i → Hid (∀ j, j < i + 1 → St.RuleOk (c j) ∧ St.Up c j) := fun hr j hj => by
            by_cases e : j = i
            · subst e; exact ⟨hok.out, hr⟩
            · exact hP.out j (by omega)
          by_cases h0 : i = 0
          · subst h0
            have N1 := next (fun h => absurd h (Nat.lt_irrefl 0))
            clear next
            go_wp2_with fail
            go_quiet (fail)
            go_wp2_with fail
            go_roundw
            case rel => exact ⟨1, by omega, by go_num, HG.out.drewN _, N1⟩
            case measure => simp [intOf]; omega
          · have hz0 : (0 : Int) < (i : Int) := by omega
            have hp0 : 0 < i := by omega
            have hd0 : decide (0 < i) = true := by simpa using hp0
            have hz1 : ((i : Int) - 1).toNat = i - 1 := by omega
            have hz3 : ¬ (i : Int) - 1 < 0 := by omega
            have hz4 : (i : Int) - 1 < (n : Int) := by omega
            obtain ⟨d0, d1⟩ := (H.out (i - 1) (by omega)).block (hG.out.bel.block _ (H.out (i - 1) (by omega)).lt)
            clear c0 c1
            by_cases hr1 : (c i).a ≤ (c (i - 1)).a
            · have hd1 : decide ((c i).a ≤ (c (i - 1)).a) = true := by simpa using hr1
              clear next
              go_wp2_with fail
              go_quiet (fail)
              go_wp2_with fail
              go_ret
              exact ⟨.ff (fun h => by have := (h.2.2 i hlt).2 (by omega); omega), HG.out.drewN _⟩
            · have hd1 : decide ((c i).a ≤ (c (i - 1)).a) = false := by simpa using hr1
              have N1 := next (fun _ => by omega)
              clear next
              go_wp2_with fail
              go_quiet (fail)
              go_wp2_with fail
              go_roundw
              case rel => exact ⟨i + 1, by omega, by go_num, HG.out.drewN _, N1⟩
              case measure => simp [intOf]; omega
    · obtain rfl : i = n := by omega
      go_wp2_with fail
      go_ret
      exact ⟨.tt ⟨⟨by omega, by omega⟩, HF.out, hP.out⟩, hG.out⟩
set_option maxRecDepth 100000 in
set_option maxHeartbeats 2000000 in
theorem fullOf_any (a : Option Addr) (n cap : Nat) (c : Nat → St.Pr) (w : World) (h : PrsAt a n c w) (hn : 1 ≤ n) (hn2 : n ≤ 30) :
    Calls Try.prog 20 #[.slice a n cap] w fun e w' => e = .returned (.int .i64 (St.full n c)) ∧ w' = w := by
  obtain ⟨b, rfl, hc⟩ := h.all (by omega)
  obtain ⟨d0, d1⟩ := hc (n - 1) (by omega)
  have hz1 : ((n : Int) - 1).toNat = n - 1 := by omega
  have hz3 : ¬ (n : Int) - 1 < 0 := by omega
  have hz4 : (n : Int) - 1 < (n : Int) := by omega
  have hz5 : (n : Int) ≤ 30 := by omega
  clear hc h
  unfold St.full
  go_enter Try.func20, Try.ntmps20
  go_wp2_with fail
  go_ret
  exact ⟨rfl, rfl⟩
theorem BoolEnd.eq {P : Prop} {e : Ending} (h : BoolEnd P e) {b : Bool} (hb : b = true ↔ P) : e = .returned (.bool b) := by
  obtain ⟨b', rfl, hb'⟩ := h
  obtain rfl : b' = b := by cases b <;> cases b' <;> simp_all
  rfl
theorem box3 (w : World) (a b c : Value) (t : TypeId) : (w.alloc (.cells #[a, b, c] t)).cell? ⟨w.heap.size, 0, none⟩ = some a ∧ (w.alloc (.cells #[a, b, c] t)).cell? ⟨w.heap.size, 1, none⟩ = some b ∧ (w.alloc (.cells #[a, b, c] t)).cell? ⟨w.heap.size, 2, none⟩ = some c := by
  refine ⟨?_, ?_, ?_⟩ <;> (simp only [World.cell?, blk_alloc_new]; rfl)
/-- A store as a value. -/
abbrev stV (ca : Option Addr) (cn ck : Nat) (ra : Option Addr) (rn rk : Nat) (v : Int) : Value := .agg #[.slice ca cn ck, .slice ra rn rk, .int .i64 v]
/-- A store in memory. -/
structure StAt (ca : Option Addr) (cn : Nat) (c : Nat → St.Pr) (ra : Option Addr) (rn : Nat) (r : Nat → St.Pr) (w : World) : Prop where
  cu : PrsAt ca cn c w
  ru : PrsAt ra rn r w
theorem StAt.below {ca ra : Option Addr} {cn rn : Nat} {c r : Nat → St.Pr} {w w' : World} (h : StAt ca cn c ra rn r w) (hb : Below w.heap.size w w') : StAt ca cn c ra rn r w' := ⟨h.cu.below hb, h.ru.below hb⟩
theorem StAt.gr {ca ra : Option Addr} {cn rn : Nat} {c r : Nat → St.Pr} {w w' : World} (h : StAt ca cn c ra rn r w) (hb : Gr w w') : StAt ca cn c ra rn r w' := h.below hb.bel
theorem grown_of_gr {P : Program} {f : FuncId} {args : Array Value} {w : World} {n : Nat} {os : Array Obj} {v : Value}
    (h : Calls P f args (Go.Sort.grow (w.drewN n) os) fun e w' => e = .returned v ∧ Gr (Go.Sort.grow (w.drewN n) os) w') : Calls P f args (Go.Sort.grow (w.drewN n) os) fun e w'' => e = .returned v ∧ ∃ p : GrownBy, w'' = Go.Sort.grow (w.drewN p.n) p.os :=
  Calls.grown_of (h.mono fun _ _ ⟨h1, h2⟩ => ⟨h1, h2.eq⟩)
set_option maxRecDepth 100000 in
set_option maxHeartbeats 2000000 in
theorem implSRight_any (ca : Option Addr) (cn ck : Nat) (c : Nat → St.Pr) (ra : Option Addr) (rn rk : Nat) (r : Nat → St.Pr) (v : Int) (w : World) (h : StAt ca cn c ra rn r w) :
    Calls Try.prog 18 #[stV ca cn ck ra rn rk v] w fun e w' => BoolEnd (St.StoreOk cn c rn r v) e ∧ Gr w w' := by
  obtain ⟨b1, h1⟩ := bool_of (St.CurveOk cn c)
  obtain ⟨b2, h2⟩ := bool_of (St.RulesOk rn r)
  obtain ⟨b3, h3⟩ := bool_of (0 ≤ v ∧ v ≤ St.full cn c)
  have K1 := Lib.hid h1
  have K2 := Lib.hid h2
  have K3 := Lib.hid h3
  obtain ⟨W, hW⟩ : ∃ W, W = w.alloc (.cells #[.slice ca cn ck, .slice ra rn rk, .int .i64 v] 32) := ⟨_, rfl⟩
  have hGW : Gr w W := by rw [hW]; exact (Gr.refl _).alloc _
  have hbox := box3 w (.slice ca cn ck) (.slice ra rn rk) (.int .i64 v) 32
  rw [← hW] at hbox
  have hlt : w.heap.size < W.heap.size := by rw [hW]; simp
  have q0 := cell_grown (w := W) (a := ⟨w.heap.size, 0, none⟩) hlt hbox.1
  have q1 := cell_grown (w := W) (a := ⟨w.heap.size, 1, none⟩) hlt hbox.2.1
  have q2 := cell_grown (w := W) (a := ⟨w.heap.size, 2, none⟩) hlt hbox.2.2
  have cu : ∀ n os, Calls Try.prog 32 #[.slice ca cn ck] (Go.Sort.grow (W.drewN n) os) fun e w'' => e = .returned (.bool b1) ∧ ∃ p : GrownBy, w'' = Go.Sort.grow (W.drewN p.n) p.os := fun n os =>
    grown_of_gr ((curve_any ca cn ck c _ ((h.gr hGW).gr (gr_of n os)).cu).mono fun e w' ⟨g1, g2⟩ => ⟨g1.eq K1.out, g2⟩)
  have ru : ∀ n os, Calls Try.prog 33 #[.slice ra rn rk] (Go.Sort.grow (W.drewN n) os) fun e w'' => e = .returned (.bool b2) ∧ ∃ p : GrownBy, w'' = Go.Sort.grow (W.drewN p.n) p.os := fun n os =>
    grown_of_gr ((rules_any ra rn rk r _ ((h.gr hGW).gr (gr_of n os)).ru).mono fun e w' ⟨g1, g2⟩ => ⟨g1.eq K2.out, g2⟩)
  have wi : ∀ n os, Calls Try.prog 34 #[.int .i64 v, .int .i64 (St.full cn c)] (Go.Sort.grow (W.drewN n) os) fun e w'' => e = .returned (.bool b3) ∧ ∃ p : GrownBy, w'' = Go.Sort.grow (W.drewN p.n) p.os := fun n os =>
    grown_of_gr ((within_any v (St.full cn c) b3 K3.out _).mono fun e w' ⟨g1, g2⟩ => ⟨g1, by rw [g2]; exact Gr.refl _⟩)
  have fu : b1 = true → ∀ n os, Calls Try.prog 20 #[.slice ca cn ck] (Go.Sort.grow (W.drewN n) os) fun e w'' => e = .returned (.int .i64 (St.full cn c)) ∧ ∃ p : GrownBy, w'' = Go.Sort.grow (W.drewN p.n) p.os := fun hb n os =>
    grown_of_gr ((fullOf_any ca cn ck c _ ((h.gr hGW).gr (gr_of n os)).cu (by have := (K1.out.1 hb).1; omega) (by have := (K1.out.1 hb).1; omega)).mono fun e w' ⟨g1, g2⟩ => ⟨g1, by rw [g2]; exact Gr.refl _⟩)
  have CU := Lib.hid cu
  have RU := Lib.hid ru
  have WI := Lib.hid wi
  have FU := Lib.hid fu
  have HGW := Lib.hid hGW
  have HW := Lib.hid hW
  clear cu ru wi fu hGW h h1 h2 h3 hbox hlt
  go_enter Try.func18, Try.ntmps18
  go_wp2_with fail
  rw [← HW.out]
  clear hW HW
  have hmix : Try.prog.follows Departure.mixedOrders = true := by kernel_rfl
  cases b1 with
  | false =>
    go_quiet_grown (first | (go_at_call 32; exact CU.out _ _))
    go_wp2_with fail
    go_ret
    exact ⟨.ff (fun h => by have := K1.out.2 h.1; cases this), HGW.out.trans (gr_of _ _)⟩
  | true =>
    have FU' := Lib.hid (FU.out rfl)
    clear FU
    cases b2 with
    | false =>
      go_quiet_grown (first | (go_at_call 32; exact CU.out _ _) | (go_at_call 33; exact RU.out _ _))
      go_wp2_with fail
      go_ret
      exact ⟨.ff (fun h => by have := K2.out.2 h.2.1; cases this), HGW.out.trans (gr_of _ _)⟩
    | true =>
      go_quiet_grown (first | (go_at_call 32; exact CU.out _ _) | (go_at_call 33; exact RU.out _ _) | (go_at_call 20; exact FU'.out _ _) | (go_at_call 34; exact WI.out _ _))
      go_wp2_with fail
      go_ret
      refine ⟨⟨b3, rfl, ?_⟩, HGW.out.trans (gr_of _ _)⟩
      exact ⟨fun h => ⟨by simpa using K1.out, by simpa using K2.out, K3.out.1 h⟩, fun h => K3.out.2 h.2.2⟩
end Go.Proofs.Ytdpghhmcibiplaa
