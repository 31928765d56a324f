/-
  The contract of the program's StoreYield.
-/
import Derived.Test.YtdpghhmcibiplaaStB2
namespace Go.Proofs.Ytdpghhmcibiplaa
open Go.RowKit Go.Deep

/-- What StoreYield tells. -/
def YEnd (n cn : Nat) (c : Nat → St.Pr) (rn : Nat) (r : Nat → St.Pr) (v : Int) (ins : Nat → Int) (z : Int) : Prop :=
  (400 < n → z = 0) ∧ (¬ 400 < n → ¬ (St.StoreOk cn c rn r v ∧ St.FlowsOk n ins) → z = -1) ∧ (¬ 400 < n → (St.StoreOk cn c rn r v ∧ St.FlowsOk n ins) → St.IsYield (St.full cn c) ins v n z)
theorem YEnd.one {n cn : Nat} {c : Nat → St.Pr} {rn : Nat} {r : Nat → St.Pr} {v : Int} {ins : Nat → Int} {z1 z2 : Int} (h1 : YEnd n cn c rn r v ins z1) (h2 : YEnd n cn c rn r v ins z2) : z1 = z2 := by
  by_cases hn : 400 < n
  · rw [h1.1 hn, h2.1 hn]
  · by_cases hk : St.StoreOk cn c rn r v ∧ St.FlowsOk n ins
    · exact St.yield_one (h1.2.2 hn hk) (h2.2.2 hn hk)
    · rw [h1.2.1 hn hk, h2.2.1 hn hk]

set_option maxRecDepth 100000 in
set_option maxHeartbeats 1000000 in
theorem givesAll_any (w : World) : Calls Try.prog 21 #[] w fun e w' => e = .returned (.agg #[hvA, gvA]) ∧ Gr w w' := by
  have HG : Hid (Gr w (w.alloc (.cells #[hvA, gvA] 50))) := (Gr.refl _).alloc _
  go_enter Try.func21, Try.ntmps21
  go_wp2_with fail
  exact bodyPost_ret (v := .agg #[hvA, gvA]) (by simp [results, Try.results21, go_sem]) rfl ⟨rfl, HG.out⟩
set_option maxRecDepth 100000 in
set_option maxHeartbeats 4000000 in
theorem falls_any (f v y : Int) (g cap : Nat) (a : Option Addr) (n ic : Nat) (ins : Nat → Int) (w : World) (hB : BasA g w) (hI : IntsAt a n ins w) (hn : n ≤ 400) (hf : St.FlowsOk n ins) (f1 : f ≤ 1000000000) (v0 : 0 ≤ v) (v1 : v ≤ f) (y0 : 0 ≤ y) (y1 : y ≤ 1000000) :
    Calls Try.prog 24 #[baV f g 1 cap, .int .i64 v, .slice a n ic, .int .i64 y] w fun e w' => BoolEnd (¬ St.Meets f ins v y n) e ∧ Gr w w' := by
  have f0 : 0 ≤ f := by omega
  obtain ⟨W, hW⟩ : ∃ W, W = w.alloc (.cells #[.int .i64 f, .slice (some ⟨g, 0, none⟩) 1 cap] 54) := ⟨_, rfl⟩
  have hGW : Gr w W := by rw [hW]; exact (Gr.refl _).alloc _
  have c0 : W.cell? ⟨w.heap.size, 0, none⟩ = some (.int .i64 f) ∧ W.cell? ⟨w.heap.size, 1, none⟩ = some (.slice (some ⟨g, 0, none⟩) 1 cap) := by rw [hW]; exact bbox2 w _ _ _
  have HGW := Lib.hid hGW
  have HW := Lib.hid hW
  have HB := Lib.hid (hB.gr hGW)
  have HI := Lib.hid (hI.below hGW.bel)
  have HC0 := Lib.hid c0
  have HF := Lib.hid hf
  clear hGW hW hB hI c0 hf
  go_enter Try.func24, Try.ntmps24
  go_wp2_with fail
  rw [← HW.out]
  go_loopw [14, 1] (fun iv vv wr => ∃ (i : Nat), i ≤ n ∧ iv = .int .i64 i ∧ vv = .int .i64 (St.volOf f ins v y i) ∧ Hid (Gr W wr) ∧ Hid (St.Meets f ins v y i)) (fun iv _ _ => n - (intOf iv).toNat)
  case atStart => exact ⟨0, Nat.zero_le _, rfl, rfl, Gr.refl _, fun j hj => absurd hj (Nat.not_lt_zero _)⟩
  case round =>
    obtain ⟨i, hi, rfl, rfl, hG, hM⟩ := hrel
    by_cases hlt : i < n
    · have hltz : (i : Int) < (n : Int) := by omega
      obtain ⟨b, hab, q0⟩ := (HI.out.below hG.out.bel).at_ hlt
      subst hab
      obtain ⟨d0, d1⟩ := And.intro (bcell_gr hG.out HC0.out.1) (bcell_gr hG.out HC0.out.2)
      have hvb := St.vol_bounds v0 v1 hM.out i (Nat.le_refl _)
      have hib := HF.out i hlt
      unfold St.FlowOk at hib
      obtain ⟨u, hu⟩ : ∃ u, u = St.volOf f ins v y i := ⟨_, rfl⟩
      have HU := Lib.hid hu
      rw [← hu] at hvb ⊢
      clear hu
      obtain ⟨hvb0, hvb1⟩ := hvb
      obtain ⟨hib0, hib1⟩ := hib
      go_wp2_with fail
      refine (stepA f u (ins i) y cap g _ (HB.out.gr hG.out) f0 f1 hvb0 (by omega) hib0 hib1 y0 y1).mono ?_
      rintro e W1 ⟨rfl, hG1⟩
      obtain ⟨o, ho⟩ : ∃ o, o = St.stepOf f 1000 (u + ins i) y := ⟨_, rfl⟩
      rw [← ho]
      have hov : o.vol = u + ins i - min y (u + ins i) - max (u + ins i - min y (u + ins i) - f) 0 := by rw [ho]; unfold St.stepOf; rw [St.given_all]
      have hos : o.sho = y - min y (u + ins i) := by rw [ho]; unfold St.stepOf; rw [St.given_all]
      have HG1 : Hid (Gr W (W1.alloc (.cells #[.int .i64 o.vol, .int .i64 o.giv, .int .i64 o.spl, .int .i64 o.sho, .int .i64 0, .int .i64 0] 76))) := (hG.out.trans hG1).alloc _
      clear ho hG1 d0 d1 q0
      by_cases hs : u + ins i < y
      · have hs1 : 0 < o.sho := by omega
        have NM : Hid (¬ St.Meets f ins v y n) := fun h => by
          have h1 := h i hlt
          have h2 := HU.out
          rw [← h2] at h1
          omega
        clear hov hos
        go_wp2_with fail
        go_ret
        exact ⟨.tt NM.out, HGW.out.trans HG1.out⟩
      · have hs1 : ¬ 0 < o.sho := by omega
        have HV : Hid (o.vol = St.volOf f ins v y (i + 1)) := by
          show _ = _
          have h2 := HU.out
          simp only [St.volOf]
          rw [← h2]
          omega
        have HM : Hid (St.Meets f ins v y (i + 1)) := fun j hj => by
          by_cases e : j = i
          · subst e
            have h2 := HU.out
            rw [← h2]; omega
          · exact hM.out j (by omega)
        clear hov hos
        go_wp2_with fail
        go_roundw
        case rel => exact ⟨i + 1, by omega, by go_num, by rw [HV.out], HG1, HM⟩
        case measure => simp [intOf]; omega
    · obtain rfl : i = n := by omega
      go_wp2_with fail
      go_ret
      exact ⟨.ff (fun h => h hM.out), HGW.out.trans hG.out⟩
set_option maxRecDepth 100000 in
set_option maxHeartbeats 2000000 in
theorem clY (f v : Int) (g cap : Nat) (a : Option Addr) (n ic : Nat) (ins : Nat → Int) (bb bs bi i : Nat) (b : Bool) (W : World) (hb : b = true ↔ ¬ St.Meets f ins v i n)
    (h1 : W.cell? ⟨bb, 0, none⟩ = some (.int .i64 f) ∧ W.cell? ⟨bb, 1, none⟩ = some (.slice (some ⟨g, 0, none⟩) 1 cap)) (h2 : W.cell? ⟨bs, 2, none⟩ = some (.int .i64 v)) (h3 : W.cell? ⟨bi, 0, none⟩ = some (.slice a n ic))
    (hB : BasA g W) (hI : IntsAt a n ins W) (hn : n ≤ 400) (hf : St.FlowsOk n ins) (f1 : f ≤ 1000000000) (v0 : 0 ≤ v) (v1 : v ≤ f) (hi : i < 1000001) :
    Calls Try.prog 23 (#[.int .i64 i] ++ #[.pointer (some ⟨bb, 0, none⟩), .pointer (some ⟨bs, 0, none⟩), .pointer (some ⟨bi, 0, none⟩)]) W fun e w' => e = .returned (.bool b) ∧ Gr W w' := by
  have H := Lib.hid ((falls_any f v (i : Int) g cap a n ic ins W hB hI hn hf f1 v0 v1 (by omega) (by omega)).mono fun e w' ⟨g1, g2⟩ => And.intro (g1.eq hb) g2)
  obtain ⟨c0, c1⟩ := h1
  clear hb hB hI hf
  go_enter Try.func23, Try.ntmps23
  go_wp2_with fail
  refine H.out.mono ?_
  rintro e w1 ⟨rfl, hG⟩
  have HG := Lib.hid hG
  clear hG
  go_wp2_with fail
  go_ret
  exact ⟨rfl, HG.out⟩
set_option maxRecDepth 100000 in
set_option maxHeartbeats 4000000 in
theorem implYield_any (ca : Option Addr) (cn ck : Nat) (c : Nat → St.Pr) (ra : Option Addr) (rn rk : Nat) (r : Nat → St.Pr) (v : Int) (a : Option Addr) (n ic : Nat) (ins : Nat → Int) (w : World) (h : StAt ca cn c ra rn r w) (hI : IntsAt a n ins w) (hn : n ≤ 1048576) :
    Calls Try.prog 8 #[stV ca cn ck ra rn rk v, .slice a n ic] w fun e w' => (∃ z, e = .returned (.int .i64 z) ∧ Hid (YEnd n cn c rn r v ins z)) ∧ Gr w w' := by
  obtain ⟨W, hW⟩ : ∃ W, W = (w.alloc (.cells #[.slice ca cn ck, .slice ra rn rk, .int .i64 v] 32)).alloc (.cells #[.slice a n ic] 26) := ⟨_, rfl⟩
  have hGW : Gr w W := by rw [hW]; exact ((Gr.refl _).alloc _).alloc _
  obtain ⟨x0, x1, x2⟩ := box3 w (.slice ca cn ck) (.slice ra rn rk) (.int .i64 v) 32
  have c0 : W.cell? ⟨w.heap.size, 0, none⟩ = some (.slice ca cn ck) ∧ W.cell? ⟨w.heap.size, 1, none⟩ = some (.slice ra rn rk) ∧ W.cell? ⟨w.heap.size, 2, none⟩ = some (.int .i64 v) := by
    rw [hW]; exact ⟨bcell_up _ x0, bcell_up _ x1, bcell_up _ x2⟩
  have c1 : W.cell? ⟨w.heap.size + 1, 0, none⟩ = some (.slice a n ic) := by
    rw [hW]
    have := bbox1 (w.alloc (.cells #[.slice ca cn ck, .slice ra rn rk, .int .i64 v] 32)) (.slice a n ic) 26
    rwa [World.size_alloc] at this
  have HGW := Lib.hid hGW
  have HW := Lib.hid hW
  have HS := Lib.hid (h.gr hGW)
  have HI := Lib.hid (hI.below hGW.bel)
  have HC := Lib.hid (And.intro c0 c1)
  obtain ⟨b1, h1⟩ := bool_of (St.StoreOk cn c rn r v)
  obtain ⟨b2, h2⟩ := bool_of (St.FlowsOk n ins)
  have K1 := Lib.hid h1
  have K2 := Lib.hid h2
  clear hGW hW h hI c0 c1 x0 x1 x2 h1 h2
  by_cases hbig : 400 < n
  · have hz : (400 : Int) < (n : Int) := by omega
    go_enter Try.func8, Try.ntmps8
    go_wp2_with fail
    go_ret
    have hG := HGW.out
    rw [HW.out] at hG
    exact ⟨⟨0, rfl, ⟨fun _ => rfl, fun h => absurd hbig h, fun h => absurd hbig h⟩⟩, hG⟩
  have hz : ¬ (400 : Int) < (n : Int) := by omega
  go_enter Try.func8, Try.ntmps8
  go_wp2_with fail
  rw [← HW.out]
  refine ((implSRight_any ca cn ck c ra rn rk r v _ HS.out).mono fun e w' ⟨g1, g2⟩ => ⟨g1.eq K1.out, g2⟩ : Calls Try.prog 18 #[stV ca cn ck ra rn rk v] W fun e w' => e = .returned (.bool b1) ∧ Gr W w').mono ?_
  rintro e W1 ⟨rfl, hG1⟩
  cases b1 with
  | false =>
    have HG1 := Lib.hid hG1
    clear hG1
    go_wp2_with fail
    go_ret
    have hno : ¬ St.StoreOk cn c rn r v := fun h => by have := K1.out.2 h; cases this
    exact ⟨⟨-1, rfl, ⟨fun h => absurd h hbig, fun _ _ => rfl, fun _ h => absurd h.1 hno⟩⟩, HGW.out.trans HG1.out⟩
  | true =>
  have hso : St.StoreOk cn c rn r v := by have := K1.out; simpa using this
  have d1 : W1.cell? ⟨w.heap.size + 1, 0, none⟩ = some (.slice a n ic) := bcell_gr hG1 HC.out.2
  have HG1 := Lib.hid hG1
  have HSO := Lib.hid hso
  have HI1 := Lib.hid (HI.out.below hG1.bel)
  clear hG1 hso
  go_wp2_with fail
  refine ((flows_any a n ic ins _ HI1.out (by omega)).mono fun e w' ⟨g1, g2⟩ => ⟨g1.eq K2.out, g2⟩ : Calls Try.prog 19 #[.slice a n ic] W1 fun e w' => e = .returned (.bool b2) ∧ w' = W1).mono ?_
  rintro e W2 ⟨rfl, rfl⟩
  clear d1
  cases b2 with
  | false =>
    go_wp2_with fail
    go_ret
    have hno : ¬ St.FlowsOk n ins := fun h => by have := K2.out.2 h; cases this
    exact ⟨⟨-1, rfl, ⟨fun h => absurd h hbig, fun _ _ => rfl, fun _ h => absurd h.2 hno⟩⟩, HGW.out.trans HG1.out⟩
  | true =>
  have hfo : St.FlowsOk n ins := by have := K2.out; simpa using this
  have HFO := Lib.hid hfo
  clear hfo
  have fb := St.full_bounds HSO.out.1
  have HFB := Lib.hid fb
  clear fb
  have d0 : W2.cell? ⟨w.heap.size, 0, none⟩ = some (.slice ca cn ck) := bcell_gr HG1.out HC.out.1.1
  go_wp2_with fail
  refine (fullOf_any ca cn ck c _ (HS.out.gr HG1.out).cu (by have := HSO.out.1.1; omega) (by have := HSO.out.1.1; omega)).mono ?_
  rintro e W3 ⟨rfl, rfl⟩
  clear d0
  go_wp2_with fail
  refine (givesAll_any _).mono ?_
  rintro e W4 ⟨rfl, hG4⟩
  have HG4 : Hid (Gr W W4) := HG1.out.trans hG4
  obtain ⟨f, hf⟩ : ∃ f, f = St.full cn c := ⟨_, rfl⟩
  rw [← hf]
  have HFE := Lib.hid hf
  clear hf hG4
  -- the basin
  obtain ⟨W5, hW5⟩ : ∃ W5, W5 = (W4.alloc (.cells #[hvA, gvA] 50)).alloc (.cells #[.int .i64 f, .slice (some ⟨W4.heap.size, 0, none⟩) 1 1] 54) := ⟨_, rfl⟩
  have hG5 : Gr W4 W5 := by rw [hW5]; exact ((Gr.refl _).alloc _).alloc _
  have hB5 : BasA W4.heap.size W5 := by
    rw [hW5]; exact ⟨bcell_up _ (bbox2 W4 _ _ _).1, bcell_up _ (bbox2 W4 _ _ _).2⟩
  have e0 : W5.cell? ⟨W4.heap.size + 1, 0, none⟩ = some (.int .i64 f) ∧ W5.cell? ⟨W4.heap.size + 1, 1, none⟩ = some (.slice (some ⟨W4.heap.size, 0, none⟩) 1 1) := by
    rw [hW5]
    have := bbox2 (W4.alloc (.cells #[hvA, gvA] 50)) (.int .i64 f) (.slice (some ⟨W4.heap.size, 0, none⟩) 1 1) 54
    rwa [World.size_alloc] at this
  have e1 : W5.cell? ⟨w.heap.size, 2, none⟩ = some (.int .i64 v) := bcell_gr hG5 (bcell_gr HG4.out HC.out.1.2.2)
  have e2 : W5.cell? ⟨w.heap.size + 1, 0, none⟩ = some (.slice a n ic) := bcell_gr hG5 (bcell_gr HG4.out HC.out.2)
  have hI5 := HI.out.below (HG4.out.trans hG5).bel
  have hv0 := HSO.out.2.2
  have hfb := HFB.out
  rw [← HFE.out] at hv0 hfb
  have eg : ∀ args w, (callFunc 23 args).run Try.prog w = .ok (.enter 23 args) w := enters_of Try.func23 (by kernel_rfl) rfl
  obtain ⟨pb, hpb⟩ : ∃ pb : Nat → Bool, ∀ i, pb i = true ↔ ¬ St.Meets f ins v (i : Nat) n := Classical.axiomOfChoice (r := fun (i : Nat) (b : Bool) => b = true ↔ ¬ St.Meets f ins v (i : Nat) n) fun i => bool_of _
  have hmono : ∀ p q, p ≤ q → q < 1000001 → pb p = true → pb q = true := fun p q hpq _ hp => (hpb q).2 fun hm => (hpb p).1 hp (St.meets_mono (by omega) hm)
  have hSS := Any.sort_Search Try.searchL 23 #[.pointer (some ⟨W4.heap.size + 1, 0, none⟩), .pointer (some ⟨w.heap.size, 0, none⟩), .pointer (some ⟨w.heap.size + 1, 0, none⟩)] 1000001 pb W5 eg (by omega)
    (fun m os i hi => (clY f v W4.heap.size 1 a n ic ins (W4.heap.size + 1) w.heap.size (w.heap.size + 1) i (pb i) _ (hpb i) ⟨bcell_gr (gr_of m os) e0.1, bcell_gr (gr_of m os) e0.2⟩ (bcell_gr (gr_of m os) e1) (bcell_gr (gr_of m os) e2) (hB5.gr (gr_of m os)) (hI5.below (gr_of m os).bel) (by omega) HFO.out (by omega) hv0.1 hv0.2 hi).mono
      fun _ _ ⟨he, hq⟩ => ⟨he, hq.eq⟩) hmono
  change Calls Try.prog 22 _ _ _ at hSS
  have hcf := St.cnt_facts pb 1000001 hmono
  have hcnt : ((List.range 1000001).countP (fun i => !pb i)) = St.cnt 1000001 pb := rfl
  rw [hcnt] at hSS
  clear hcnt
  generalize St.cnt 1000001 pb = k at hSS hcf
  have hk1 : 1 ≤ k := by
    by_cases e : 1 ≤ k
    · exact e
    · have h0 := (hpb 0).1 (hcf.2.2 0 (by omega) (by omega))
      exact absurd (St.meets_zero hv0.1 (by omega) HFO.out) h0
  have hk2 : k ≤ 1000001 := hcf.1
  have YE : Hid (YEnd n cn c rn r v ins ((k : Int) - 1)) := by
    refine ⟨fun h => absurd h hbig, fun _ h => absurd ⟨HSO.out, HFO.out⟩ h, fun _ _ => ⟨⟨by omega, by omega⟩, ?_, ?_⟩⟩
    · rw [← HFE.out]
      have h1 := hcf.2.1 (k - 1) (by omega)
      have h2 : ¬ ¬ St.Meets f ins v ((k - 1 : Nat) : Int) n := fun h => by have := (hpb (k - 1)).2 h; rw [h1] at this; cases this
      have e : ((k - 1 : Nat) : Int) = (k : Int) - 1 := by omega
      rw [← e]; exact Classical.not_not.1 h2
    · by_cases e : k = 1000001
      · exact Or.inl (by omega)
      · refine Or.inr ?_
        rw [← HFE.out]
        have h1 := (hpb k).1 (hcf.2.2 k (Nat.le_refl _) (by omega))
        have e : (k : Int) - 1 + 1 = (k : Int) := by omega
        rw [e]; exact h1
  have HSS := Lib.hid hSS
  have HG5 : Hid (Gr w W5) := HGW.out.trans (HG4.out.trans hG5)
  have HW5 := Lib.hid hW5
  have hmf : ∀ (fn : Fn) (first cap : Array Value) (w : World), (Instr.makeFunc fn first cap).run Try.prog w = .ok (.func fn first cap) w := fun _ _ _ _ => rfl
  have hkz1 : (1 : Int) ≤ (k : Int) := by omega
  have hkz2 : (k : Int) ≤ 1000001 := by omega
  have hl4 : w.heap.size + 1 < W4.heap.size := by
    have h1 : w.heap.size + 1 < W.heap.size := World.block_lt_of_cell? _ _ HC.out.2
    have := HG4.out.bel.size
    omega
  clear hW5 hG5 hB5 e0 e1 e2 hI5 hv0 hfb eg hpb hmono hSS hcf hk1 hk2
  go_wp2_with fail
  rw [← HW5.out]
  refine HSS.out.mono ?_
  rintro e W6 ⟨rfl, q, os, hW6⟩
  have HG6 : Hid (Gr w W6) := HG5.out.trans (by rw [hW6]; exact gr_of q os)
  clear hW6 hmf
  go_wp2_with fail
  go_ret
  exact ⟨⟨_, rfl, YE⟩, HG6.out⟩
end Go.Proofs.Ytdpghhmcibiplaa
