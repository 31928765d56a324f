/-
  The contract of the model's StoreRun.
-/
import Derived.Test.YtdpghhmcibiplaaDoorStN2
import Derived.Test.YtdpghhmcibiplaaDoorStR2
namespace Go.Proofs.YtdpghhmcibiplaaDoor
open Go.RowKit Go.Deep

/-- What stands from round to round. -/
structure SpI (w wr : World) (b7 b8 : Nat) (ca : Option Addr) (cn ck : Nat) (ra : Option Addr) (rn rk : Nat) (s : St.Sm) : Prop where
  res : wr.rowIs (w.heap.size + 1) 61 6 (r6 (.int .i64 0) (.int .i64 0) (.int .i64 0) (.int .i64 0) (.int .i64 0) (.int .i64 0))
  out : wr.rowIs b7 61 6 (r6 (.int .i64 s.vol) (.int .i64 s.giv) (.int .i64 s.spl) (.int .i64 s.sho) (.int .i64 s.wor) (.int .i64 0))
  now : wr.rowIs b8 66 3 (sr3 (.slice ca cn ck) (.slice ra rn rk) (.int .i64 s.vol))
  bel : Below w.heap.size w wr
  num : w.heap.size + 1 < b7 ∧ b7 < b8
theorem SpI.below {w wr wr' : World} {b7 b8 : Nat} {ca : Option Addr} {cn ck : Nat} {ra : Option Addr} {rn rk : Nat} {s : St.Sm} (h : SpI w wr b7 b8 ca cn ck ra rn rk s) (hb : Below wr.heap.size wr wr') : SpI w wr' b7 b8 ca cn ck ra rn rk s :=
  ⟨srow_below h.res hb, srow_below h.out hb, srow_below h.now hb, h.bel.trans (hb.mono h.bel.size), h.num⟩
/-- A round's writes. -/
abbrev upS (W : World) (b7 b8 : Nat) (a b c d : Int) : World := ((((W.setCell ⟨b8, 2, none⟩ (.int .i64 a)).setCell ⟨b7, 0, none⟩ (.int .i64 a)).setCell ⟨b7, 1, none⟩ (.int .i64 b)).setCell ⟨b7, 2, none⟩ (.int .i64 c)).setCell ⟨b7, 3, none⟩ (.int .i64 d)
theorem SpI.up {w W : World} {b7 b8 : Nat} {ca : Option Addr} {cn ck : Nat} {ra : Option Addr} {rn rk : Nat} {s : St.Sm} (h : SpI w W b7 b8 ca cn ck ra rn rk s) (a b c d : Int) : SpI w (upS W b7 b8 a b c d) b7 b8 ca cn ck ra rn rk ⟨a, b, c, d, s.wor⟩ := by
  obtain ⟨n1, n2⟩ := h.num
  have far : ∀ k, k ≠ b7 → k ≠ b8 → (upS W b7 b8 a b c d).heap[k]? = W.heap[k]? := fun k h7 h8 =>
    (Below.heap_setCell _ ⟨b7, 3, none⟩ _ _ h7).trans ((Below.heap_setCell _ ⟨b7, 2, none⟩ _ _ h7).trans ((Below.heap_setCell _ ⟨b7, 1, none⟩ _ _ h7).trans ((Below.heap_setCell _ ⟨b7, 0, none⟩ _ _ h7).trans (Below.heap_setCell _ ⟨b8, 2, none⟩ _ _ h8))))
  refine ⟨h.res.of_block (far _ (by omega) (by omega)), ?_, ?_, ?_, h.num⟩
  · have h0 : (W.setCell ⟨b8, 2, none⟩ (.int .i64 a)).rowIs b7 61 6 (r6 (.int .i64 s.vol) (.int .i64 s.giv) (.int .i64 s.spl) (.int .i64 s.sho) (.int .i64 s.wor) (.int .i64 0)) := h.out.of_block (Below.heap_setCell _ ⟨b8, 2, none⟩ _ _ (by show b7 ≠ b8; omega))
    obtain ⟨cur, h1, h2, h3⟩ := (((h0.set 0 (.int .i64 a)).set 1 (.int .i64 b)).set 2 (.int .i64 c)).set 3 (.int .i64 d)
    refine ⟨cur, h1, h2, fun i hi => ?_⟩
    rw [h3 i hi]
    rcases six hi with rfl | rfl | rfl | rfl | rfl | rfl <;> rfl
  · have h0 : (W.setCell ⟨b8, 2, none⟩ (.int .i64 a)).rowIs b8 66 3 (sr3 (.slice ca cn ck) (.slice ra rn rk) (.int .i64 a)) := by
      obtain ⟨cur, h1, h2, h3⟩ := h.now.set 2 (.int .i64 a)
      refine ⟨cur, h1, h2, fun i hi => ?_⟩
      rw [h3 i hi]
      have : i = 0 ∨ i = 1 ∨ i = 2 := by omega
      rcases this with rfl | rfl | rfl <;> rfl
    have h8 : b8 ≠ b7 := by omega
    exact h0.of_block ((Below.heap_setCell _ ⟨b7, 3, none⟩ _ _ h8).trans ((Below.heap_setCell _ ⟨b7, 2, none⟩ _ _ h8).trans ((Below.heap_setCell _ ⟨b7, 1, none⟩ _ _ h8).trans (Below.heap_setCell _ ⟨b7, 0, none⟩ _ _ h8))))
  · have l7 : w.heap.size ≤ b7 := by omega
    have l8 : w.heap.size ≤ b8 := by omega
    exact ((((h.bel.setCell (p := ⟨b8, 2, none⟩) l8 _).setCell (p := ⟨b7, 0, none⟩) l7 _).setCell (p := ⟨b7, 1, none⟩) l7 _).setCell (p := ⟨b7, 2, none⟩) l7 _).setCell (p := ⟨b7, 3, none⟩) l7 _
theorem SpI.wors {w W : World} {b7 b8 : Nat} {ca : Option Addr} {cn ck : Nat} {ra : Option Addr} {rn rk : Nat} {s : St.Sm} (h : SpI w W b7 b8 ca cn ck ra rn rk s) (x : Int) : SpI w (W.setCell ⟨b7, 4, none⟩ (.int .i64 x)) b7 b8 ca cn ck ra rn rk ⟨s.vol, s.giv, s.spl, s.sho, x⟩ := by
  obtain ⟨n1, n2⟩ := h.num
  have far : ∀ k, k ≠ b7 → (W.setCell ⟨b7, 4, none⟩ (.int .i64 x)).heap[k]? = W.heap[k]? := fun k hk => Below.heap_setCell _ _ _ _ hk
  refine ⟨h.res.of_block (far _ (by omega)), ?_, h.now.of_block (far _ (by omega)), h.bel.setCell (p := ⟨b7, 4, none⟩) (by show w.heap.size ≤ b7; omega) _, h.num⟩
  obtain ⟨cur, h1, h2, h3⟩ := h.out.set 4 (.int .i64 x)
  refine ⟨cur, h1, h2, fun i hi => ?_⟩
  rw [h3 i hi]
  rcases six hi with rfl | rfl | rfl | rfl | rfl | rfl <;> rfl
def RdP (w : World) (b7 b8 : Nat) (ca : Option Addr) (cn ck : Nat) (ra : Option Addr) (rn rk : Nat) (s : St.Sm) (bi bw i : Nat) (y x : Int) (W : World) : Prop := SpI w W b7 b8 ca cn ck ra rn rk s ∧ W.cell? ⟨bi, i, none⟩ = some (.int .i64 y) ∧ W.cell? ⟨bw, i, none⟩ = some (.int .i64 x)
theorem RdP.below {w : World} {b7 b8 : Nat} {ca : Option Addr} {cn ck : Nat} {ra : Option Addr} {rn rk : Nat} {s : St.Sm} {bi bw i : Nat} {y x : Int} {W W' : World} (h : RdP w b7 b8 ca cn ck ra rn rk s bi bw i y x W) (hb : Below W.heap.size W W') : RdP w b7 b8 ca cn ck ra rn rk s bi bw i y x W' :=
  ⟨h.1.below hb, (hb.cell (World.block_lt_of_cell? _ _ h.2.1)).trans h.2.1, (hb.cell (World.block_lt_of_cell? _ _ h.2.2)).trans h.2.2⟩
set_option maxRecDepth 100000 in
set_option maxHeartbeats 4000000 in
theorem sRun_any (ca : Option Addr) (cn ck : Nat) (c : Nat → St.Pr) (ra : Option Addr) (rn rk : Nat) (r : Nat → St.Pr) (v : Int) (ia : Option Addr) (n ik : Nat) (ins : Nat → Int) (wa : Option Addr) (m wk : Nat) (wants : Nat → Int) (w : World) (h : StAt ca cn c ra rn r w) (hI : IntsAt ia n ins w) (hQ : IntsAt wa m wants w) (hn : n ≤ 1048576) (hm : m ≤ 1048576) :
    Calls Tryd.prog 40 #[stV ca cn ck ra rn rk v, .slice ia n ik, .slice wa m wk] w fun e w' => (∃ z, e = .returned (ansV z) ∧ Hid (RunIs cn c rn r v n ins m wants z)) ∧ Below w.heap.size w w' := by
  obtain ⟨b1, h1⟩ := bool_of (St.StoreOk cn c rn r v)
  obtain ⟨W, hW⟩ : ∃ W, W = (w.alloc (.cells #[.slice ca cn ck, .slice ra rn rk, .int .i64 v] 66)).alloc zOutO := ⟨_, rfl⟩
  have hGW : Gr w W := by rw [hW]; exact ((Gr.refl _).alloc _).alloc _
  have RB : W.rowIs w.heap.size 66 3 (sr3 (.slice ca cn ck) (.slice ra rn rk) (.int .i64 v)) := by rw [hW]; exact srow_below (srow3 w _ _ _ _) ((Below.refl _ _).alloc (Nat.le_refl _) _)
  have RO : W.rowIs (w.heap.size + 1) 61 6 (r6 (.int .i64 0) (.int .i64 0) (.int .i64 0) (.int .i64 0) (.int .i64 0) (.int .i64 0)) := by
    rw [hW]
    have := row6 (w.alloc (.cells #[.slice ca cn ck, .slice ra rn rk, .int .i64 v] 66)) (.int .i64 0) (.int .i64 0) (.int .i64 0) (.int .i64 0) (.int .i64 0) (.int .i64 0) 61
    rwa [World.size_alloc] at this
  have HGW := Lib.hid hGW
  have HW := Lib.hid hW
  have HS0 := Lib.hid h
  have HS := Lib.hid (h.gr hGW)
  have HI := Lib.hid hI
  have HQ := Lib.hid hQ
  have K1 := Lib.hid h1
  have HRB := Lib.hid RB
  have HRO := Lib.hid RO
  have hle : w.heap.size ≤ w.heap.size + 1 := by omega
  have HLE := Lib.hid hle
  clear hGW hW h h1 hI hQ RB RO hle
  by_cases hbig : 400 < n ∨ 400 < m
  · have HBGT := Lib.hid hbig
    have key : ∀ (K : Prop), ((400 : Int) < (n : Int) → K) → (¬ (400 : Int) < (n : Int) → (400 : Int) < (m : Int) → K) → K := fun K k1 k2 => by
      by_cases hn : (400 : Int) < (n : Int)
      · exact k1 hn
      · exact k2 hn (by omega)
    have HBW := Lib.hid HGW.out.bel
    obtain ⟨⟨o0, o1, o2, o3, o4, o5⟩, z0, z1, z2, z3, z4, z5⟩ := row6_cells HRO.out
    clear hbig
    refine key _ (fun hz => ?_) (fun hz hz2 => ?_)
    all_goals
      clear key
      have HSI : Hid (RunIs cn c rn r v n ins m wants ⟨0, 0, 0, 0, 0, 2⟩) := ⟨fun _ => rfl, fun h => absurd HBGT.out h, fun h => absurd HBGT.out h⟩
      go_enter Tryd.func40, Tryd.ntmps40
      go_wp2_with fail
      have hB := (HGW.out.bel).trans ((Below.refl w.heap.size W))
      have hrow := HRO.out
      rw [HW.out] at hB hrow
      first
        | exact bodyPost_ret (v := ansV ⟨0, 0, 0, 0, 0, 2⟩) (by simp [results, Tryd.results40, go_sem]) rfl ⟨⟨_, rfl, HSI⟩, ((Below.refl _ _).alloc (Nat.le_refl _) _).alloc (by simp) _⟩
        | (refine bodyPost_ret (v := ansV ⟨0, 0, 0, 0, 0, 2⟩) ?_ rfl ⟨⟨_, rfl, HSI⟩, below_put6 hB HLE.out _ _ _ _ _ _⟩
           obtain ⟨⟨x0, x1, x2, x3, x4, x5⟩, _⟩ := row6_cells (row6_put hrow (.int .i64 0) (.int .i64 0) (.int .i64 0) (.int .i64 0) (.int .i64 0) (.int .i64 2))
           simp only [results, Tryd.results40]
           simp [go_sem, x0, x1, x2, x3, x4, x5])
  have hz : ¬ (400 : Int) < (n : Int) := by omega
  have hz2 : ¬ (400 : Int) < (m : Int) := by omega
  have HBG := Lib.hid hbig
  have HN4 : Hid (n ≤ 400 ∧ m ≤ 400) := Lib.hid (by omega)
  clear hbig
  go_enter Tryd.func40, Tryd.ntmps40
  go_wp2_with fail
  rw [← HW.out]
  refine ((sRight_any ca cn ck c ra rn rk r v _ HS.out).mono fun e w' ⟨g1, g2⟩ => ⟨g1.eq K1.out, g2⟩ : Calls Tryd.prog 48 #[stV ca cn ck ra rn rk v] W fun e w' => e = .returned (.bool b1) ∧ Gr W w').mono ?_
  rintro e W1 ⟨rfl, hG1⟩
  have HB1 : Hid (Below w.heap.size w W1) := (HGW.out.trans hG1).bel
  have HR1 := Lib.hid (brow_gr HRO.out hG1)
  have HX1 := Lib.hid (brow_gr HRB.out hG1)
  obtain ⟨⟨o0, o1, o2, o3, o4, o5⟩, z0, z1, z2, z3, z4, z5⟩ := row6_cells HR1.out
  clear hG1
  cases b1 with
  | false =>
    have HNO : Hid (¬ St.StoreOk cn c rn r v) := fun h => by have := K1.out.2 h; cases this
    have HSI : Hid (RunIs cn c rn r v n ins m wants ⟨0, 0, 0, 0, 0, 1⟩) := ⟨fun h => absurd h HBG.out, fun _ _ => rfl, fun _ h => absurd h.1 HNO.out⟩
    go_wp2_with fail
    refine bodyPost_ret (v := ansV ⟨0, 0, 0, 0, 0, 1⟩) ?_ rfl ⟨⟨_, rfl, HSI⟩, below_put6 HB1.out HLE.out _ _ _ _ _ _⟩
    obtain ⟨⟨x0, x1, x2, x3, x4, x5⟩, _⟩ := row6_cells (row6_put HR1.out (.int .i64 0) (.int .i64 0) (.int .i64 0) (.int .i64 0) (.int .i64 0) (.int .i64 1))
    simp only [results, Tryd.results40]
    simp [go_sem, x0, x1, x2, x3, x4, x5]
  | true =>
  have hso : St.StoreOk cn c rn r v := by have := K1.out; simpa using this
  have HSO := Lib.hid hso
  clear hso
  by_cases hnm : n = m
  case neg =>
    have HNM := Lib.hid hnm
    have hz3 : ((n : Int) == (m : Int)) = false := by simp; omega
    have hz4 : (n == m) = false := by simp [hnm]
    clear hnm
    have HSI : Hid (RunIs cn c rn r v n ins m wants ⟨0, 0, 0, 0, 0, 1⟩) := ⟨fun h => absurd h HBG.out, fun _ _ => rfl, fun _ h => absurd h.2.1 HNM.out⟩
    go_wp2_with fail
    refine bodyPost_ret (v := ansV ⟨0, 0, 0, 0, 0, 1⟩) ?_ rfl ⟨⟨_, rfl, HSI⟩, below_put6 HB1.out HLE.out _ _ _ _ _ _⟩
    obtain ⟨⟨x0, x1, x2, x3, x4, x5⟩, _⟩ := row6_cells (row6_put HR1.out (.int .i64 0) (.int .i64 0) (.int .i64 0) (.int .i64 0) (.int .i64 0) (.int .i64 1))
    simp only [results, Tryd.results40]
    simp [go_sem, x0, x1, x2, x3, x4, x5]
  subst hnm
  obtain ⟨p0, p1, p2⟩ := srow3_cells HX1.out
  have hb18 : w.heap.size < W1.heap.size := HX1.out.lt
  obtain ⟨W2, hW2⟩ : ∃ W2, W2 = (W1.alloc (.cells #[.int .i64 v, .int .i64 0, .int .i64 0, .int .i64 0, .int .i64 v, .int .i64 0] 61)).alloc (.cells #[.slice ca cn ck, .slice ra rn rk, .int .i64 v] 66) := ⟨_, rfl⟩
  have HSP : Hid (SpI w W2 W1.heap.size (W1.heap.size + 1) ca cn ck ra rn rk (St.runS rn r (St.full cn c) v ins wants 0)) := by
    have hb : Below W1.heap.size W1 W2 := by rw [hW2]; exact ((Below.refl _ _).alloc (Nat.le_refl _) _).alloc (by simp) _
    refine ⟨srow_below HR1.out hb, ?_, ?_, HB1.out.trans (hb.mono HB1.out.size), HR1.out.lt, by omega⟩
    · rw [hW2]; exact srow_below (row6 W1 _ _ _ _ _ _ _) ((Below.refl _ _).alloc (Nat.le_refl _) _)
    · rw [hW2]
      have := srow3 (W1.alloc (.cells #[.int .i64 v, .int .i64 0, .int .i64 0, .int .i64 0, .int .i64 v, .int .i64 0] 61)) (.slice ca cn ck) (.slice ra rn rk) (.int .i64 v) 66
      rwa [World.size_alloc] at this
  have HW2 := Lib.hid hW2
  obtain ⟨f, hf⟩ : ∃ f, f = St.full cn c := ⟨_, rfl⟩
  rw [← hf] at HSP
  have fb := St.full_bounds HSO.out.1
  have hvb := HSO.out.2.2
  rw [← hf] at fb hvb
  have HF := Lib.hid hf
  have HFB := Lib.hid (And.intro fb hvb)
  clear hW2 hf fb hvb o0 o1 o2 o3 o4 o5 z0 z1 z2 z3 z4 z5
  go_wp2_with fail
  rw [← HW2.out]
  clear p0 p1 p2 hb18
  go_loopw [9] (fun iv wr => ∃ (i : Nat), i ≤ n ∧ iv = .int .i64 i ∧ Hid (SpI w wr W1.heap.size (W1.heap.size + 1) ca cn ck ra rn rk (St.runS rn r f v ins wants i)) ∧ Hid (St.FlowsOk i ins ∧ St.FlowsOk i wants)) (fun iv _ => n - (intOf iv).toNat)
  case atStart => exact ⟨0, Nat.zero_le _, rfl, HSP, ⟨fun j hj => absurd hj (Nat.not_lt_zero _), fun j hj => absurd hj (Nat.not_lt_zero _)⟩⟩
  case round =>
    obtain ⟨i, hi, rfl, hN, hP⟩ := hrel
    clear HSP
    obtain ⟨⟨fb0, fb1⟩, vb0, vb1⟩ := HFB.out
    by_cases hlt : i < n
    · have hltz : (i : Int) < (n : Int) := by omega
      obtain ⟨bi, hbi, qi⟩ := (HI.out.below hN.out.bel).at_ hlt
      obtain ⟨bw, hbw, qw⟩ := (HQ.out.below hN.out.bel).at_ hlt
      subst hbi
      subst hbw
      have hn4 := HN4.out.1
      have sm := run_small (n := i) HSO.out.2.1 (by omega : (0 : Int) ≤ f) fb1 vb0 vb1 (by omega) hP.out.1 hP.out.2 (Nat.le_refl i)
      have HNX : Hid (∀ o, o = St.stepOf f (St.giveOf rn r f ((St.runS rn r f v ins wants i).vol + ins i)) ((St.runS rn r f v ins wants i).vol + ins i) (wants i) → St.runS rn r f v ins wants (i + 1) = St.addS i (St.runS rn r f v ins wants i) o) := fun o ho => by rw [ho]; rfl
      obtain ⟨s, hs⟩ : ∃ s, s = St.runS rn r f v ins wants i := ⟨_, rfl⟩
      rw [← hs] at sm hN HNX
      have HSM := Lib.hid sm
      have HSV : Hid (St.StoreOk cn c rn r s.vol) := ⟨HSO.out.1, HSO.out.2.1, sm.1.1.1, by rw [← HF.out]; exact sm.1.1.2⟩
      have HRD : Hid (RdP w W1.heap.size (W1.heap.size + 1) ca cn ck ra rn rk s bi bw i (ins i) (wants i) wr) := ⟨hN.out, qi, qw⟩
      clear hs sm qi qw hN hn4
      go_wp2_with fail
      refine wp_region_held_drew (S := RdP w W1.heap.size (W1.heap.size + 1) ca cn ck ra rn rk s bi bw i (ins i) (wants i)) (by kernel_rfl) (HRD.out.below (Below.refl _ _).drew) (fun hHeld => ?_)
      have HR0 : Hid (RdP w W1.heap.size (W1.heap.size + 1) ca cn ck ra rn rk s bi bw i (ins i) (wants i) wr.drew) := hHeld
      clear HRD
      refine take_do (i := 0) (v := (stV ca cn ck ra rn rk s.vol)) rfl (by kernel_rfl) (by kernel_rfl) (by kernel_rfl) (fun _ _ _ h => h) (by rfl) ?_ (by assumption) ?_
      · intro w hSw
        obtain ⟨hr, hci, hcw⟩ := hSw; obtain ⟨d0, d1, d2⟩ := srow3_cells hr.now
        go_simp
      simp only [Act.put, List.setIfInBounds_toArray, List.set_cons_zero, List.set_cons_succ]
      refine take_do (i := 1) (v := (.slice (some ⟨bi, 0, none⟩) n ik)) rfl (by kernel_rfl) (by kernel_rfl) (by kernel_rfl) (fun _ _ _ h => h) (by rfl) ?_ (by assumption) ?_
      · intro w hSw
        obtain ⟨hr, hci, hcw⟩ := hSw; obtain ⟨d0, d1, d2⟩ := srow3_cells hr.now
        go_simp
      simp only [Act.put, List.setIfInBounds_toArray, List.set_cons_zero, List.set_cons_succ]
      refine take_do (i := 2) (v := (.int .i64 i)) rfl (by kernel_rfl) (by kernel_rfl) (by kernel_rfl) (fun _ _ _ h => h) (by rfl) ?_ (by assumption) ?_
      · intro w hSw
        obtain ⟨hr, hci, hcw⟩ := hSw; obtain ⟨d0, d1, d2⟩ := srow3_cells hr.now
        go_simp
      simp only [Act.put, List.setIfInBounds_toArray, List.set_cons_zero, List.set_cons_succ]
      refine take_do (i := 3) (v := (.pointer (some ⟨bi, i, none⟩))) rfl (by kernel_rfl) (by kernel_rfl) (by kernel_rfl) (fun _ _ _ h => h) (by rfl) ?_ (by assumption) ?_
      · intro w hSw
        obtain ⟨hr, hci, hcw⟩ := hSw; obtain ⟨d0, d1, d2⟩ := srow3_cells hr.now
        go_simp
      simp only [Act.put, List.setIfInBounds_toArray, List.set_cons_zero, List.set_cons_succ]
      refine take_do (i := 4) (v := (.int .i64 (ins i))) rfl (by kernel_rfl) (by kernel_rfl) (by kernel_rfl) (fun _ _ _ h => h) (by rfl) ?_ (by assumption) ?_
      · intro w hSw
        obtain ⟨hr, hci, hcw⟩ := hSw; obtain ⟨d0, d1, d2⟩ := srow3_cells hr.now
        go_simp
      simp only [Act.put, List.setIfInBounds_toArray, List.set_cons_zero, List.set_cons_succ]
      refine take_do (i := 5) (v := (.slice (some ⟨bw, 0, none⟩) n wk)) rfl (by kernel_rfl) (by kernel_rfl) (by kernel_rfl) (fun _ _ _ h => h) (by rfl) ?_ (by assumption) ?_
      · intro w hSw
        obtain ⟨hr, hci, hcw⟩ := hSw; obtain ⟨d0, d1, d2⟩ := srow3_cells hr.now
        go_simp
      simp only [Act.put, List.setIfInBounds_toArray, List.set_cons_zero, List.set_cons_succ]
      refine take_do (i := 6) (v := (.int .i64 i)) rfl (by kernel_rfl) (by kernel_rfl) (by kernel_rfl) (fun _ _ _ h => h) (by rfl) ?_ (by assumption) ?_
      · intro w hSw
        obtain ⟨hr, hci, hcw⟩ := hSw; obtain ⟨d0, d1, d2⟩ := srow3_cells hr.now
        go_simp
      simp only [Act.put, List.setIfInBounds_toArray, List.set_cons_zero, List.set_cons_succ]
      refine take_do (i := 7) (v := (.pointer (some ⟨bw, i, none⟩))) rfl (by kernel_rfl) (by kernel_rfl) (by kernel_rfl) (fun _ _ _ h => h) (by rfl) ?_ (by assumption) ?_
      · intro w hSw
        obtain ⟨hr, hci, hcw⟩ := hSw; obtain ⟨d0, d1, d2⟩ := srow3_cells hr.now
        go_simp
      simp only [Act.put, List.setIfInBounds_toArray, List.set_cons_zero, List.set_cons_succ]
      refine take_do (i := 8) (v := (.int .i64 (wants i))) rfl (by kernel_rfl) (by kernel_rfl) (by kernel_rfl) (fun _ _ _ h => h) (by rfl) ?_ (by assumption) ?_
      · intro w hSw
        obtain ⟨hr, hci, hcw⟩ := hSw; obtain ⟨d0, d1, d2⟩ := srow3_cells hr.now
        go_simp
      simp only [Act.put, List.setIfInBounds_toArray, List.set_cons_zero, List.set_cons_succ]
      refine wpAnyH_ready (rs := [9, 10]) (by kernel_rfl) (by simp) (AllReadyH.cons (at_drop (i := 9) rfl) (fun K2 hK => ?_) (AllReadyH.cons (at_drop (i := 10) rfl) (fun K2 hK => ?_) (AllReadyH.nil)))
      · go_simp
        refine (sStep_any ca cn ck c ra rn rk r s.vol (ins i) (wants i) _ (HS0.out.below HR0.out.1.bel)).mono ?_
        rintro e W5 ⟨⟨z, rfl, hz9⟩, hG5⟩
        have HR5 : Hid (RdP w W1.heap.size (W1.heap.size + 1) ca cn ck ra rn rk s bi bw i (ins i) (wants i) W5) := HR0.out.below hG5.bel
        have HZ9 := Lib.hid hz9.out
        clear hz9
        go_wp2_with fail
        refine hK.out _ _ (hHeld.below hG5.bel) (fun hHeld2 => ?_)
        clear hK hHeld
        have hHeld := hHeld2
        clear hHeld2
        clear hG5
        refine take_call (i := 10) rfl (by kernel_rfl) (fun K2 hK => ?_)
        go_simp
        refine hK.out _ _ (hHeld.below ((Below.refl _ _).alloc (Nat.le_refl _) _)) (fun hHeld2 => ?_)
        clear hK hHeld
        have hHeld := hHeld2
        clear hHeld2
        obtain ⟨W6, hW6⟩ : ∃ W6, W6 = W5.alloc zOutO := ⟨_, rfl⟩
        rw [← hW6] at hHeld ⊢
        have hb6 : Below W5.heap.size W5 W6 := by rw [hW6]; exact (Below.refl _ _).alloc (Nat.le_refl _) _
        have HX0 : Hid (W6.rowIs W5.heap.size 61 6 (r6 (.int .i64 0) (.int .i64 0) (.int .i64 0) (.int .i64 0) (.int .i64 0) (.int .i64 0))) := by show World.rowIs _ _ _ _ _; rw [hW6]; exact row6 W5 _ _ _ _ _ _ _
        have HRZ : Hid (RdP w W1.heap.size (W1.heap.size + 1) ca cn ck ra rn rk s bi bw i (ins i) (wants i) (put6 W6 W5.heap.size (.int .i64 z.a) (.int .i64 z.b) (.int .i64 z.c) (.int .i64 z.d) (.int .i64 z.e) (.int .i64 z.k))) := HR5.out.below (below_put6 hb6 (Nat.le_refl _) _ _ _ _ _ _)
        clear hW6 hb6
        obtain ⟨⟨o0, o1, o2, o3, o4, o5⟩, z0, z1, z2, z3, z4, z5⟩ := row6_cells HX0.out
        have HXZ : Hid ((put6 W6 W5.heap.size (.int .i64 z.a) (.int .i64 z.b) (.int .i64 z.c) (.int .i64 z.d) (.int .i64 z.e) (.int .i64 z.k)).rowIs W5.heap.size 61 6 (r6 (.int .i64 z.a) (.int .i64 z.b) (.int .i64 z.c) (.int .i64 z.d) (.int .i64 z.e) (.int .i64 z.k))) := row6_put HX0.out _ _ _ _ _ _
        obtain ⟨WZ, hWZ⟩ : ∃ WZ, WZ = put6 W6 W5.heap.size (.int .i64 z.a) (.int .i64 z.b) (.int .i64 z.c) (.int .i64 z.d) (.int .i64 z.e) (.int .i64 z.k) := ⟨_, rfl⟩
        refine take_call (i := 11) rfl (by kernel_rfl) (fun K2 hK => ?_)
        go_simp
        refine hK.out _ _ HRZ.out (fun _ => ?_)
        clear hK hHeld o0 o1 o2 o3 o4 o5 z0 z1 z2 z3 z4 z5
        refine wpAnyH_done (by kernel_rfl) ?_ _
        rw [← hWZ] at HRZ HXZ
        unfold put6 at hWZ
        rw [← hWZ]
        clear hWZ
        have hlx : W1.heap.size + 1 < W5.heap.size := HR5.out.1.now.lt
        obtain ⟨bx, hbx⟩ : ∃ bx, bx = W5.heap.size := ⟨_, rfl⟩
        rw [← hbx] at HXZ hlx ⊢
        clear hbx
        by_cases hok : St.FlowOk (ins i) ∧ St.FlowOk (wants i)
        · obtain ⟨o, ho⟩ : ∃ o, o = St.stepOf f (St.giveOf rn r f (s.vol + ins i)) (s.vol + ins i) (wants i) := ⟨_, rfl⟩
          have hzo : z = ⟨o.vol, o.giv, o.spl, o.sho, 0, 0⟩ := by
            have := HZ9.out.1 ⟨HSV.out, hok⟩
            rw [← HF.out, ← ho] at this
            exact this
          have HOB : Hid ((((0 ≤ o.giv ∧ o.giv ≤ 1000000) ∧ (0 ≤ o.spl ∧ o.spl ≤ 1001000000)) ∧ (0 ≤ o.sho ∧ o.sho ≤ 1000000)) ∧ (0 ≤ o.vol ∧ o.vol ≤ f)) := by
            have hy := hok.1
            have hx := hok.2
            unfold St.FlowOk at hy hx
            have sm := HSM.out
            have hgb := St.giveOf_bounds HSO.out.2.1 (f := f) (x := s.vol + ins i) (by omega) (by omega)
            have hst := St.step_bounds (f := f) (g := St.giveOf rn r f (s.vol + ins i)) (x := s.vol + ins i) (want := wants i) (by omega) hgb.1 hgb.2 (by omega) (by omega)
            rw [← ho] at hst
            show _ ∧ _
            omega
          have HNO : Hid (St.runS rn r f v ins wants (i + 1) = St.addS i s o) := HNX.out o ho
          have HP1 : Hid (St.FlowsOk (i + 1) ins ∧ St.FlowsOk (i + 1) wants) := ⟨fun j hj => by
              by_cases e : j = i
              · subst e; exact hok.1
              · exact hP.out.1 j (by omega), fun j hj => by
              by_cases e : j = i
              · subst e; exact hok.2
              · exact hP.out.2 j (by omega)⟩
          subst hzo
          obtain ⟨⟨x0, x1, x2, x3, x4, x5⟩, _⟩ := row6_cells HXZ.out
          obtain ⟨⟨o0, o1, o2, o3, o4, o5⟩, z0, z1, z2, z3, z4, z5⟩ := row6_cells HRZ.out.1.out
          obtain ⟨p0, p1, p2⟩ := srow3_cells HRZ.out.1.now
          have zp := HRZ.out.1.now.frozen 2
          have n1 : ¬ bx = W1.heap.size := by omega
          have n2 : ¬ W1.heap.size = bx := by omega
          have n3 : ¬ bx = W1.heap.size + 1 := by omega
          have n4 : ¬ W1.heap.size + 1 = bx := by omega
          have n5 : ¬ W1.heap.size = W1.heap.size + 1 := by omega
          have n6 : ¬ W1.heap.size + 1 = W1.heap.size := by omega
          have hob := HOB.out
          have sm := HSM.out
          obtain ⟨⟨⟨⟨ob0, ob1⟩, ob2, ob3⟩, ob4, ob5⟩, ob6, ob7⟩ := hob
          obtain ⟨⟨⟨sm0, sm1⟩, sm2, sm3⟩, ⟨⟨sm4, sm5⟩, sm6, sm7⟩, sm8, sm9⟩ := sm
          have HUP : Hid (SpI w (upS WZ W1.heap.size (W1.heap.size + 1) o.vol (s.giv + o.giv) (s.spl + o.spl) (s.sho + o.sho)) W1.heap.size (W1.heap.size + 1) ca cn ck ra rn rk ⟨o.vol, s.giv + o.giv, s.spl + o.spl, s.sho + o.sho, s.wor⟩) := HRZ.out.1.up _ _ _ _
          have HUW : Hid (SpI w ((upS WZ W1.heap.size (W1.heap.size + 1) o.vol (s.giv + o.giv) (s.spl + o.spl) (s.sho + o.sho)).setCell ⟨W1.heap.size, 4, none⟩ (.int .i64 o.vol)) W1.heap.size (W1.heap.size + 1) ca cn ck ra rn rk ⟨o.vol, s.giv + o.giv, s.spl + o.spl, s.sho + o.sho, o.vol⟩) := HUP.out.wors o.vol
          unfold upS at HUP HUW
          clear hok ho
          by_cases h0 : i = 0
          · have hi0 : ((i : Int) == 0) = true := by simp [h0]
            have hi1 : (i == 0) = true := by simp [h0]
            have HE9 : Hid (St.runS rn r f v ins wants (i + 1) = ⟨o.vol, s.giv + o.giv, s.spl + o.spl, s.sho + o.sho, o.vol⟩) := by show _ = _; rw [HNO.out]; unfold St.addS; rw [if_pos h0]
            have H00 := Lib.hid h0
            clear h0
            go_wp2_with fail
            go_roundw
            case rel => exact ⟨i + 1, by omega, by go_num, by rw [HE9.out]; exact HUW, HP1⟩
            case measure => simp [intOf]; omega
          · have hi0 : ((i : Int) == 0) = false := by simp; omega
            have hi1 : (i == 0) = false := by simp; omega
            by_cases hw : o.vol < s.wor
            · have HE9 : Hid (St.runS rn r f v ins wants (i + 1) = ⟨o.vol, s.giv + o.giv, s.spl + o.spl, s.sho + o.sho, o.vol⟩) := by
                show _ = _
                rw [HNO.out]; unfold St.addS; rw [if_neg h0]
                have : min s.wor o.vol = o.vol := by omega
                rw [this]
              go_wp2_with fail
              go_roundw
              case rel => exact ⟨i + 1, by omega, by go_num, by rw [HE9.out]; exact HUW, HP1⟩
              case measure => simp [intOf]; omega
            · have HE9 : Hid (St.runS rn r f v ins wants (i + 1) = ⟨o.vol, s.giv + o.giv, s.spl + o.spl, s.sho + o.sho, s.wor⟩) := by
                show _ = _
                rw [HNO.out]; unfold St.addS; rw [if_neg h0]
                have : min s.wor o.vol = s.wor := by omega
                rw [this]
              go_wp2_with fail
              go_roundw
              case rel => exact ⟨i + 1, by omega, by go_num, by rw [HE9.out]; exact HUP, HP1⟩
              case measure => simp [intOf]; omega
        · have hzo : z = ⟨0, 0, 0, 0, 0, 1⟩ := HZ9.out.2 (fun h => hok h.2)
          have HNE : Hid (¬ (St.FlowsOk n ins ∧ St.FlowsOk n wants)) := fun h => hok ⟨h.1 i hlt, h.2 i hlt⟩
          subst hzo
          obtain ⟨⟨x0, x1, x2, x3, x4, x5⟩, _⟩ := row6_cells HXZ.out
          obtain ⟨⟨o0, o1, o2, o3, o4, o5⟩, z0, z1, z2, z3, z4, z5⟩ := row6_cells HRZ.out.1.res
          have HRF := Lib.hid HRZ.out.1.res
          have HBF := Lib.hid HRZ.out.1.bel
          have HSI : Hid (RunIs cn c rn r v n ins n wants ⟨0, 0, 0, 0, 0, 1⟩) := ⟨fun h => absurd h HBG.out, fun _ _ => rfl, fun _ h => absurd h.2.2 HNE.out⟩
          clear hok
          go_wp2_with fail
          refine bodyPost_ret (v := ansV ⟨0, 0, 0, 0, 0, 1⟩) ?_ rfl ⟨⟨_, rfl, HSI⟩, below_put6 HBF.out HLE.out _ _ _ _ _ _⟩
          obtain ⟨⟨x0, x1, x2, x3, x4, x5⟩, _⟩ := row6_cells (row6_put HRF.out (.int .i64 0) (.int .i64 0) (.int .i64 0) (.int .i64 0) (.int .i64 0) (.int .i64 1))
          simp only [results, Tryd.results40]
          simp [go_sem, x0, x1, x2, x3, x4, x5]
      · go_simp
        refine hK.out _ _ (hHeld.below ((Below.refl _ _).alloc (Nat.le_refl _) _)) (fun hHeld2 => ?_)
        clear hK hHeld
        have hHeld := hHeld2
        clear hHeld2
        have HRB : Hid (RdP w W1.heap.size (W1.heap.size + 1) ca cn ck ra rn rk s bi bw i (ins i) (wants i) (wr.drew.alloc zOutO)) := hHeld
        refine take_call (i := 9) rfl (by kernel_rfl) (fun K2 hK => ?_)
        go_simp
        refine (sStep_any ca cn ck c ra rn rk r s.vol (ins i) (wants i) _ (HS0.out.below HRB.out.1.bel)).mono ?_
        rintro e W5 ⟨⟨z, rfl, hz9⟩, hG5⟩
        have HR5 : Hid (RdP w W1.heap.size (W1.heap.size + 1) ca cn ck ra rn rk s bi bw i (ins i) (wants i) W5) := HRB.out.below hG5.bel
        have HG5 := Lib.hid hG5
        have HX0 : Hid (W5.rowIs wr.heap.size 61 6 (r6 (.int .i64 0) (.int .i64 0) (.int .i64 0) (.int .i64 0) (.int .i64 0) (.int .i64 0))) := brow_gr (row6 wr.drew _ _ _ _ _ _ _) hG5
        have HZ9 := Lib.hid hz9.out
        clear hz9
        go_wp2_with fail
        refine hK.out _ _ (hHeld.below hG5.bel) (fun hHeld2 => ?_)
        clear hK hHeld
        have hHeld := hHeld2
        clear hHeld2
        clear hG5
        have HRZ : Hid (RdP w W1.heap.size (W1.heap.size + 1) ca cn ck ra rn rk s bi bw i (ins i) (wants i) (put6 W5 wr.heap.size (.int .i64 z.a) (.int .i64 z.b) (.int .i64 z.c) (.int .i64 z.d) (.int .i64 z.e) (.int .i64 z.k))) := HR0.out.below (below_put6 (((Below.refl _ _).alloc (Nat.le_refl _) _).trans (HG5.out.bel.mono (by simp))) (Nat.le_refl _) _ _ _ _ _ _)
        obtain ⟨⟨o0, o1, o2, o3, o4, o5⟩, z0, z1, z2, z3, z4, z5⟩ := row6_cells HX0.out
        have HXZ : Hid ((put6 W5 wr.heap.size (.int .i64 z.a) (.int .i64 z.b) (.int .i64 z.c) (.int .i64 z.d) (.int .i64 z.e) (.int .i64 z.k)).rowIs wr.heap.size 61 6 (r6 (.int .i64 z.a) (.int .i64 z.b) (.int .i64 z.c) (.int .i64 z.d) (.int .i64 z.e) (.int .i64 z.k))) := row6_put HX0.out _ _ _ _ _ _
        obtain ⟨WZ, hWZ⟩ : ∃ WZ, WZ = put6 W5 wr.heap.size (.int .i64 z.a) (.int .i64 z.b) (.int .i64 z.c) (.int .i64 z.d) (.int .i64 z.e) (.int .i64 z.k) := ⟨_, rfl⟩
        refine take_call (i := 11) rfl (by kernel_rfl) (fun K2 hK => ?_)
        go_simp
        refine hK.out _ _ HRZ.out (fun _ => ?_)
        clear hK hHeld o0 o1 o2 o3 o4 o5 z0 z1 z2 z3 z4 z5
        refine wpAnyH_done (by kernel_rfl) ?_ _
        rw [← hWZ] at HRZ HXZ
        unfold put6 at hWZ
        rw [← hWZ]
        clear hWZ
        have hlx : W1.heap.size + 1 < wr.heap.size := HR0.out.1.now.lt
        obtain ⟨bx, hbx⟩ : ∃ bx, bx = wr.heap.size := ⟨_, rfl⟩
        rw [← hbx] at HXZ hlx ⊢
        clear hbx
        by_cases hok : St.FlowOk (ins i) ∧ St.FlowOk (wants i)
        · obtain ⟨o, ho⟩ : ∃ o, o = St.stepOf f (St.giveOf rn r f (s.vol + ins i)) (s.vol + ins i) (wants i) := ⟨_, rfl⟩
          have hzo : z = ⟨o.vol, o.giv, o.spl, o.sho, 0, 0⟩ := by
            have := HZ9.out.1 ⟨HSV.out, hok⟩
            rw [← HF.out, ← ho] at this
            exact this
          have HOB : Hid ((((0 ≤ o.giv ∧ o.giv ≤ 1000000) ∧ (0 ≤ o.spl ∧ o.spl ≤ 1001000000)) ∧ (0 ≤ o.sho ∧ o.sho ≤ 1000000)) ∧ (0 ≤ o.vol ∧ o.vol ≤ f)) := by
            have hy := hok.1
            have hx := hok.2
            unfold St.FlowOk at hy hx
            have sm := HSM.out
            have hgb := St.giveOf_bounds HSO.out.2.1 (f := f) (x := s.vol + ins i) (by omega) (by omega)
            have hst := St.step_bounds (f := f) (g := St.giveOf rn r f (s.vol + ins i)) (x := s.vol + ins i) (want := wants i) (by omega) hgb.1 hgb.2 (by omega) (by omega)
            rw [← ho] at hst
            show _ ∧ _
            omega
          have HNO : Hid (St.runS rn r f v ins wants (i + 1) = St.addS i s o) := HNX.out o ho
          have HP1 : Hid (St.FlowsOk (i + 1) ins ∧ St.FlowsOk (i + 1) wants) := ⟨fun j hj => by
              by_cases e : j = i
              · subst e; exact hok.1
              · exact hP.out.1 j (by omega), fun j hj => by
              by_cases e : j = i
              · subst e; exact hok.2
              · exact hP.out.2 j (by omega)⟩
          subst hzo
          obtain ⟨⟨x0, x1, x2, x3, x4, x5⟩, _⟩ := row6_cells HXZ.out
          obtain ⟨⟨o0, o1, o2, o3, o4, o5⟩, z0, z1, z2, z3, z4, z5⟩ := row6_cells HRZ.out.1.out
          obtain ⟨p0, p1, p2⟩ := srow3_cells HRZ.out.1.now
          have zp := HRZ.out.1.now.frozen 2
          have n1 : ¬ bx = W1.heap.size := by omega
          have n2 : ¬ W1.heap.size = bx := by omega
          have n3 : ¬ bx = W1.heap.size + 1 := by omega
          have n4 : ¬ W1.heap.size + 1 = bx := by omega
          have n5 : ¬ W1.heap.size = W1.heap.size + 1 := by omega
          have n6 : ¬ W1.heap.size + 1 = W1.heap.size := by omega
          have hob := HOB.out
          have sm := HSM.out
          obtain ⟨⟨⟨⟨ob0, ob1⟩, ob2, ob3⟩, ob4, ob5⟩, ob6, ob7⟩ := hob
          obtain ⟨⟨⟨sm0, sm1⟩, sm2, sm3⟩, ⟨⟨sm4, sm5⟩, sm6, sm7⟩, sm8, sm9⟩ := sm
          have HUP : Hid (SpI w (upS WZ W1.heap.size (W1.heap.size + 1) o.vol (s.giv + o.giv) (s.spl + o.spl) (s.sho + o.sho)) W1.heap.size (W1.heap.size + 1) ca cn ck ra rn rk ⟨o.vol, s.giv + o.giv, s.spl + o.spl, s.sho + o.sho, s.wor⟩) := HRZ.out.1.up _ _ _ _
          have HUW : Hid (SpI w ((upS WZ W1.heap.size (W1.heap.size + 1) o.vol (s.giv + o.giv) (s.spl + o.spl) (s.sho + o.sho)).setCell ⟨W1.heap.size, 4, none⟩ (.int .i64 o.vol)) W1.heap.size (W1.heap.size + 1) ca cn ck ra rn rk ⟨o.vol, s.giv + o.giv, s.spl + o.spl, s.sho + o.sho, o.vol⟩) := HUP.out.wors o.vol
          unfold upS at HUP HUW
          clear hok ho
          by_cases h0 : i = 0
          · have hi0 : ((i : Int) == 0) = true := by simp [h0]
            have hi1 : (i == 0) = true := by simp [h0]
            have HE9 : Hid (St.runS rn r f v ins wants (i + 1) = ⟨o.vol, s.giv + o.giv, s.spl + o.spl, s.sho + o.sho, o.vol⟩) := by show _ = _; rw [HNO.out]; unfold St.addS; rw [if_pos h0]
            have H00 := Lib.hid h0
            clear h0
            go_wp2_with fail
            go_roundw
            case rel => exact ⟨i + 1, by omega, by go_num, by rw [HE9.out]; exact HUW, HP1⟩
            case measure => simp [intOf]; omega
          · have hi0 : ((i : Int) == 0) = false := by simp; omega
            have hi1 : (i == 0) = false := by simp; omega
            by_cases hw : o.vol < s.wor
            · have HE9 : Hid (St.runS rn r f v ins wants (i + 1) = ⟨o.vol, s.giv + o.giv, s.spl + o.spl, s.sho + o.sho, o.vol⟩) := by
                show _ = _
                rw [HNO.out]; unfold St.addS; rw [if_neg h0]
                have : min s.wor o.vol = o.vol := by omega
                rw [this]
              go_wp2_with fail
              go_roundw
              case rel => exact ⟨i + 1, by omega, by go_num, by rw [HE9.out]; exact HUW, HP1⟩
              case measure => simp [intOf]; omega
            · have HE9 : Hid (St.runS rn r f v ins wants (i + 1) = ⟨o.vol, s.giv + o.giv, s.spl + o.spl, s.sho + o.sho, s.wor⟩) := by
                show _ = _
                rw [HNO.out]; unfold St.addS; rw [if_neg h0]
                have : min s.wor o.vol = s.wor := by omega
                rw [this]
              go_wp2_with fail
              go_roundw
              case rel => exact ⟨i + 1, by omega, by go_num, by rw [HE9.out]; exact HUP, HP1⟩
              case measure => simp [intOf]; omega
        · have hzo : z = ⟨0, 0, 0, 0, 0, 1⟩ := HZ9.out.2 (fun h => hok h.2)
          have HNE : Hid (¬ (St.FlowsOk n ins ∧ St.FlowsOk n wants)) := fun h => hok ⟨h.1 i hlt, h.2 i hlt⟩
          subst hzo
          obtain ⟨⟨x0, x1, x2, x3, x4, x5⟩, _⟩ := row6_cells HXZ.out
          obtain ⟨⟨o0, o1, o2, o3, o4, o5⟩, z0, z1, z2, z3, z4, z5⟩ := row6_cells HRZ.out.1.res
          have HRF := Lib.hid HRZ.out.1.res
          have HBF := Lib.hid HRZ.out.1.bel
          have HSI : Hid (RunIs cn c rn r v n ins n wants ⟨0, 0, 0, 0, 0, 1⟩) := ⟨fun h => absurd h HBG.out, fun _ _ => rfl, fun _ h => absurd h.2.2 HNE.out⟩
          clear hok
          go_wp2_with fail
          refine bodyPost_ret (v := ansV ⟨0, 0, 0, 0, 0, 1⟩) ?_ rfl ⟨⟨_, rfl, HSI⟩, below_put6 HBF.out HLE.out _ _ _ _ _ _⟩
          obtain ⟨⟨x0, x1, x2, x3, x4, x5⟩, _⟩ := row6_cells (row6_put HRF.out (.int .i64 0) (.int .i64 0) (.int .i64 0) (.int .i64 0) (.int .i64 0) (.int .i64 1))
          simp only [results, Tryd.results40]
          simp [go_sem, x0, x1, x2, x3, x4, x5]
    · obtain rfl : i = n := by omega
      obtain ⟨⟨o0, o1, o2, o3, o4, o5⟩, _⟩ := row6_cells hN.out.out
      obtain ⟨⟨y0, y1, y2, y3, y4, y5⟩, z0, z1, z2, z3, z4, z5⟩ := row6_cells hN.out.res
      have HRF := Lib.hid hN.out.res
      have HBF := Lib.hid hN.out.bel
      have HND : Hid (RunIs cn c rn r v i ins i wants ⟨(St.runS rn r f v ins wants i).vol, (St.runS rn r f v ins wants i).giv, (St.runS rn r f v ins wants i).spl, (St.runS rn r f v ins wants i).sho, (St.runS rn r f v ins wants i).wor, 0⟩) := ⟨fun h => absurd h HBG.out, fun _ h => absurd ⟨HSO.out, rfl, hP.out⟩ h, fun _ _ => by rw [HF.out]⟩
      generalize St.runS rn r f v ins wants i = s at *
      clear hN
      go_wp2_with fail
      refine bodyPost_ret (v := ansV ⟨s.vol, s.giv, s.spl, s.sho, s.wor, 0⟩) ?_ rfl ⟨⟨_, rfl, HND⟩, below_put6 HBF.out HLE.out _ _ _ _ _ _⟩
      obtain ⟨⟨x0, x1, x2, x3, x4, x5⟩, _⟩ := row6_cells (row6_put HRF.out (.int .i64 s.vol) (.int .i64 s.giv) (.int .i64 s.spl) (.int .i64 s.sho) (.int .i64 s.wor) (.int .i64 0))
      simp only [results, Tryd.results40]
      simp [go_sem, x0, x1, x2, x3, x4, x5]
end Go.Proofs.YtdpghhmcibiplaaDoor
