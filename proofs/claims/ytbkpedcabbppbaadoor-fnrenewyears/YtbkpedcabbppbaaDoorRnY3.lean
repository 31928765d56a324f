/-
  RenewYears: the model's.
-/
import Derived.Test.YtbkpedcabbppbaaDoorRnY2
import Derived.Test.YtbkpedcabbppbaaDoorRnO2
import Derived.Test.YtbkpedcabbppbaaDoorRnAz
namespace Go.Proofs.YtbkpedcabbppbaaDoor
open Go.RowKit Go.Deep

theorem rown_block {B n size : Nat} {e : TypeId} {v : Value} {xs : List Value} {W W' : World} (h : W.ownsRow B e size v n xs) (hb : ∀ k, v.ownBlock = some k → W'.heap[k]? = W.heap[k]?) : W'.ownsRow B e size v n xs := ⟨h.1, h.2.imp id (fun ⟨g, cap, cur, e1, e2, e3, r⟩ => ⟨g, cap, cur, e1, e2, (hb g (by rw [e1]; rfl)).trans e3, r⟩)⟩
theorem own_lt {B n s : Nat} {t : TypeId} {v : Value} {xs : List Value} {W : World} (h : W.ownsRow B t s v n xs) {k : Nat} (e : v.ownBlock = some k) : k < W.heap.size := (h.lt k e).2
/-- The cells of rows. -/
def rowVs (aj : Nat → Option Addr) (own : Nat → List Nat) (cj : Nat → Nat) (y : Nat) : List Value := (List.range y).map (fun j => Value.slice (aj j) (own j).length (cj j))
theorem rowVs_succ (aj : Nat → Option Addr) (own : Nat → List Nat) (cj : Nat → Nat) (y : Nat) : rowVs aj own cj (y + 1) = rowVs aj own cj y ++ [.slice (aj y) (own y).length (cj y)] := by simp [rowVs, List.range_succ]
theorem rowVs_congr {aj aj' : Nat → Option Addr} {own : Nat → List Nat} {cj cj' : Nat → Nat} {y : Nat} (h : ∀ j, j < y → aj j = aj' j ∧ cj j = cj' j) : rowVs aj own cj y = rowVs aj' own cj' y := by
  unfold rowVs
  apply List.map_congr_left
  intro j hj
  rw [(h j (List.mem_range.1 hj)).1, (h j (List.mem_range.1 hj)).2]
/-- The rows so far and what is done. -/
def YoS (B y : Nat) (own : Nat → List Nat) (ov dv : Value) (D : List Nat) (W : World) : Prop := ∃ (aj : Nat → Option Addr) (cj : Nat → Nat), W.ownsRow B 24 1 ov y (rowVs aj own cj y) ∧ (∀ j, j < y → LsOwn 2 1 B (own j).length (aj j) (cj j) (Rn.nf (own j)) W) ∧ (∀ i j b, i < y → j < y → aj i = some b → aj j = some b → i = j) ∧ W.ownsRow B 2 1 dv D.length (rnVs D) ∧ ∀ j k, j < y → aj j = some ⟨k, 0, none⟩ → dv.ownBlock ≠ some k
theorem YoS.below {B y : Nat} {own : Nat → List Nat} {ov dv : Value} {D : List Nat} {W W' : World} (h : YoS B y own ov dv D W) (hb : Below W.heap.size W W') : YoS B y own ov dv D W' := by
  obtain ⟨aj, cj, h1, h2, h3, h4, h5⟩ := h
  exact ⟨aj, cj, rown_below h1 hb, fun j hj => (h2 j hj).below hb, h3, rown_below h4 hb, h5⟩
theorem YoS.shape {B y : Nat} {own : Nat → List Nat} {ov dv : Value} {D : List Nat} {W : World} (h : YoS B y own ov dv D W) : (∃ a c, ov = .slice a y c) ∧ ∃ a c, dv = .slice a D.length c := by
  obtain ⟨aj, cj, h1, h2, h3, h4, h5⟩ := h
  exact ⟨rown_shape h1, rown_shape h4⟩
theorem YoS.done {B y : Nat} {own : Nat → List Nat} {ov dv : Value} {D : List Nat} {W : World} (h : YoS B y own ov dv D W) : W.ownsRow B 2 1 dv D.length (rnVs D) := by
  obtain ⟨aj, cj, h1, h2, h3, h4, h5⟩ := h
  exact h4
theorem YoS.ss {B m : Nat} {own : Nat → List Nat} {ov dv : Value} {D : List Nat} {W : World} (h : YoS B m own ov dv D W) : ∃ a c, ov = .slice a m c ∧ SsO B W.heap.size m a c (fun j => (own j).length) (fun j => Rn.nf (own j)) W := by
  obtain ⟨aj, cj, h1, h2, h3, h4, h5⟩ := h
  rcases h1.2 with q | ⟨g, cap, cur, e1, e2, e3, e4, e5, e6, e7⟩
  · exact ⟨none, 0, by rw [q.1, q.2], Or.inl ⟨rfl, q.2, rfl⟩⟩
  · have hr : W.rowIs g 24 cap (fun i => cur[i]?.getD undef) := ⟨cur, e3, by simpa using e6, fun i hi => by
      show cur[i]? = some (cur[i]?.getD undef)
      rw [Array.getElem?_eq_getElem (by omega)]
      rfl⟩
    refine ⟨some ⟨g, 0, none⟩, cap, e1, Or.inr ⟨g, aj, cj, rfl, ⟨e2, hr.lt⟩, ⟨cap, _, by omega, hr, fun j hj => ?_⟩, fun j hj => ?_, h3⟩⟩
    · have q1 : (cur.toList.take (m * 1))[j]? = (rowVs aj own cj m)[j]? := by rw [e7]
      rw [List.getElem?_take, if_pos (by omega), Array.getElem?_toList] at q1
      show cur[j]?.getD undef = _
      rw [q1]
      unfold rowVs
      simp [hj]
    · rcases h2 j hj with q | ⟨x, e, q1, q2⟩
      · exact Or.inl q
      · rw [Nat.mul_one] at q2
        exact Or.inr ⟨x, e, ⟨q1, q2.lt⟩, q2⟩
theorem yos_push {B y : Nat} {own : Nat → List Nat} {ov dv : Value} {D : List Nat} {w5 V2 : World} {aj : Nat → Option Addr} {cj : Nat → Nat} (h1 : w5.ownsRow B 24 1 ov y (rowVs aj own cj y)) (h2 : ∀ j, j < y → LsOwn 2 1 B (own j).length (aj j) (cj j) (Rn.nf (own j)) w5) (h3 : ∀ i j b, i < y → j < y → aj i = some b → aj j = some b → i = j) (h4 : w5.ownsRow B 2 1 dv D.length (rnVs D)) (h5 : ∀ j k, j < y → aj j = some ⟨k, 0, none⟩ → dv.ownBlock ≠ some k)
    (hV : Below w5.heap.size w5 V2) (hB : B ≤ w5.heap.size) {wa : Option Addr} {wc : Nat} (hr : V2.ownsRow w5.heap.size 2 1 (.slice wa (own y).length wc) (own y).length (rnVs (own y))) {W3 : World} {g cap : Nat} (ho : W3.ownsRow B 24 1 (.slice (some ⟨g, 0, none⟩) (y + 1) cap) (y + 1) (rowVs aj own cj y ++ [.slice wa (own y).length wc])) (hgr : (V2.alloc (.cells #[.slice wa (own y).length wc] 24)).grownBy W3 ov.ownBlock) : YoS B (y + 1) own (.slice (some ⟨g, 0, none⟩) (y + 1) cap) dv D W3 := by
  have h1' := rown_below h1 hV
  have keep : ∀ k : Nat, k < V2.heap.size → (∃ cur, V2.heap[k]? = some (.cells cur 2 (0, 0))) → W3.heap[k]? = V2.heap[k]? := fun k hk ht => by
    rw [hgr.block k (Nat.lt_of_lt_of_le hk (by simp)) (fun e => typ_ne ht (rown_typ h1' e.symm) (by decide) rfl)]
    exact (nbel_alloc V2 _).block k hk
  obtain ⟨ra, rc, e9, hL⟩ := rls_own hr
  cases e9
  have old : ∀ j k, j < y → aj j = some ⟨k, 0, none⟩ → k < w5.heap.size := fun j k hj e => ((h2 j hj).lt e).2
  have kl : ∀ {N : Nat} {a : Option Addr} {c : Nat} {f : Nat → Int} {C : Nat}, LsOwn 2 1 C N a c f V2 → LsOwn 2 1 C N a c f W3 := fun {N a c f C} q => by
    rcases q with q | ⟨x, e, q1, q2⟩
    · exact Or.inl q
    · exact Or.inr ⟨x, e, q1, q2.block (keep x q2.lt (isBlk_type q2))⟩
  refine ⟨fun j => if j = y then wa else aj j, fun j => if j = y then wc else cj j, ?_, fun j hj => ?_, fun i j b hi hj e1 e2 => ?_, ?_, fun j k hj e => ?_⟩
  · rw [rowVs_succ]
    simp only
    rw [rowVs_congr (aj' := aj) (cj' := cj) (fun j hj => by simp [show ¬ j = y by omega])]
    exact ho
  · by_cases e : j = y
    · subst e; simp only; exact kl (hL.low hB)
    · simp only [if_neg e]; exact kl ((h2 j (by omega)).below hV)
  · have new : wa = some b → w5.heap.size ≤ b.block := fun e => by
      rcases hL with q | ⟨x, e', q, _⟩
      · rw [q.1] at e; cases e
      · rw [e'] at e; cases e; exact q
    have olb : ∀ t, t < y → aj t = some b → b.block < w5.heap.size := fun t ht e => by
      rcases h2 t ht with q | ⟨x, e', _, q⟩
      · rw [q.1] at e; cases e
      · rw [e'] at e; cases e; exact q.lt
    by_cases ei : i = y
    · by_cases ej : j = y
      · omega
      · simp only [if_pos ei] at e1
        simp only [if_neg ej] at e2
        have := olb j (by omega) e2
        have := new e1
        omega
    · simp only [if_neg ei] at e1
      by_cases ej : j = y
      · simp only [if_pos ej] at e2
        have := olb i (by omega) e1
        have := new e2
        omega
      · simp only [if_neg ej] at e2
        exact h3 i j b (by omega) (by omega) e1 e2
  · have q := rown_below h4 hV
    exact rown_block q (fun k e => keep k (own_lt q e) (rown_typ q e))
  · by_cases ej : j = y
    · simp only [if_pos ej] at e
      intro e2
      have q1 := (hL.lt e).1
      have q2 := own_lt h4 e2
      omega
    · simp only [if_neg ej] at e
      exact h5 j k (by omega) e
/-- More is done. -/
theorem YoS.more {B y : Nat} {own : Nat → List Nat} {ov dv dv' : Value} {D D' : List Nat} {W3 W4 : World} {g : Nat} (h : YoS B y own ov dv D W3) (hgr : W3.grownBy W4 dv.ownBlock) (ho : W4.ownsRow B 2 1 dv' D'.length (rnVs D')) (hat : dv.ownBlock = some g ∨ g = W3.heap.size) (hg : dv'.ownBlock = some g) : YoS B y own ov dv' D' W4 := by
  obtain ⟨aj, cj, h1, h2, h3, h4, h5⟩ := h
  refine ⟨aj, cj, ?_, fun j hj => ?_, h3, ho, fun j k hj e e2 => ?_⟩
  · exact rown_block h1 (fun k e => hgr.block k (own_lt h1 e) (fun e2 => typ_ne (rown_typ h1 e) (rown_typ h4 e2.symm) (by decide) rfl))
  · rcases h2 j hj with q | ⟨x, e, q1, q2⟩
    · exact Or.inl q
    · exact Or.inr ⟨x, e, q1, q2.block (hgr.block x q2.lt (fun e2 => h5 j x hj e e2.symm))⟩
  · rw [hg] at e2
    cases e2
    rcases hat with q | q
    · exact h5 j g hj e q
    · have := ((h2 j hj).lt e).2
      omega
theorem ro_picks (cs wo cd : Int) (n : Nat) (a : Option Addr) (c : Nat) (w : World) : (Instr.field 26 (roV cs wo cd n a c) 0).run Tryd.prog w = .ok (.slice a n c) w := by kernel_rfl
set_option maxRecDepth 100000 in
set_option maxHeartbeats 16000000 in
theorem specYears_any (a : Option Addr) (n cap : Nat) (f : Nat → Int) (ba : Option Addr) (m bc : Nat) (b : Nat → Int) (w : World) (h : IsAt a (n * 2) f w) (hs : n ≤ 1048576) (hb : IsAt ba m b w) (hm : m ≤ 1048576) :
    Calls Tryd.prog 27 #[.slice a n cap, .slice ba m bc] w fun e w' => YrEnd w.heap.size (Rn.ym n f m b) (Rn.own f n b) e w' ∧ Below w.heap.size w w' := by
  have H := Lib.hid h
  have HBB := Lib.hid hb
  clear h hb
  obtain ⟨W, hW⟩ : ∃ W, W = w.alloc (.cells #[] 24) := ⟨_, rfl⟩
  have HB : Hid (Below w.heap.size w W) := by show Below _ _ _; rw [hW]; exact nbel_alloc _ _
  have HOW : Hid (W.ownsRow w.heap.size 24 1 (.slice (some ⟨w.heap.size, 0, none⟩) 0 0) 0 (rowVs (fun _ => none) (Rn.own f n b) (fun _ => 0) 0)) := by show World.ownsRow _ _ _ _ _ _ _; rw [hW]; exact World.ownsRow_made w #[] 0 (Nat.le_refl _) (Nat.zero_le _) rfl
  have HSZ : Hid (W.heap.size = w.heap.size + 1) := by show W.heap.size = _; rw [hW]; simp
  have HNO : Hid (∀ V, Below W.heap.size W V → YrEnd w.heap.size 0 (Rn.own f n b) (.returned (.slice (some ⟨w.heap.size, 0, none⟩) 0 0)) V) := fun V hV => by
    have q : W.rowIs w.heap.size 24 0 (rowN []) := by rw [hW]; exact rowN_alloc w [] _
    have q2 := nrow_below q hV
    exact ⟨_, _, rfl, Or.inr ⟨w.heap.size, fun _ => none, fun _ => 0, rfl, ⟨Nat.le_refl _, q2.lt⟩, ⟨0, _, Nat.le_refl _, q2, fun j hj => absurd hj (by omega)⟩, fun j hj => absurd hj (by omega), fun i j b hi => absurd hi (by omega)⟩⟩
  have HW := Lib.hid hW
  clear hW
  by_cases c4 : (400 : Int) < (n : Int)
  · rw [Rn.ym_no (fun x => by have := x.1.1; omega)]
    go_enter Tryd.func27, Tryd.ntmps27
    go_upto_region 2 with fail
    rw [← HW.out]
    go_wp2_with fail
    go_ret
    exact ⟨HNO.out _ (Below.refl _ _), HB.out⟩
  by_cases cm : (20 : Int) < (m : Int)
  · rw [Rn.ym_no (fun x => by have := x.2.1; omega)]
    go_enter Tryd.func27, Tryd.ntmps27
    go_upto_region 2 with fail
    rw [← HW.out]
    go_wp2_with fail
    go_ret
    exact ⟨HNO.out _ (Below.refl _ _), HB.out⟩
  by_cases cr : Rn.Right n f
  case neg =>
    rw [Rn.ym_no (fun x => cr x.1)]
    have HC := Lib.hid (dB_ff cr)
    clear cr
    go_enter Tryd.func27, Tryd.ntmps27
    go_upto_region 2 with fail
    rw [← HW.out]
    go_wp2_with fail
    refine (specAssets_any a n cap f _ (H.out.below HB.out) hs).mono ?_
    rintro e w1 ⟨rfl, hb⟩
    rw [HC.out]
    have HB1 := Lib.hid hb
    clear hb
    go_wp2_with fail
    go_ret
    exact ⟨HNO.out _ HB1.out, HB.out.trans (HB1.out.mono HB.out.size)⟩
  have HC := Lib.hid (dB_tt cr)
  have HRT := Lib.hid cr
  have hn40 := cr.1
  clear cr
  by_cases cb : Rn.BudsOk m b
  case neg =>
    rw [Rn.ym_no (fun x => cb x.2.2)]
    have HCB := Lib.hid (dB_ff cb)
    clear cb
    go_enter Tryd.func27, Tryd.ntmps27
    go_upto_region 2 with fail
    rw [← HW.out]
    go_wp2_with fail
    refine (specAssets_any a n cap f _ (H.out.below HB.out) hs).mono ?_
    rintro e w1 ⟨rfl, hb⟩
    rw [HC.out]
    have HB1 := Lib.hid hb
    clear hb
    go_wp2_with fail
    refine (rl03_any ba m bc b _ (HBB.out.below (HB.out.trans (HB1.out.mono HB.out.size))) hm).mono ?_
    rintro e w2 ⟨rfl, hw⟩
    subst w2
    rw [HCB.out]
    go_wp2_with fail
    go_ret
    exact ⟨HNO.out _ HB1.out, HB.out.trans (HB1.out.mono HB.out.size)⟩
  have HCB := Lib.hid (dB_tt cb)
  have HBK := Lib.hid cb
  rw [Rn.ym_yes ⟨HRT.out, by omega, cb⟩]
  clear cb HNO
  obtain ⟨i1, hi1, hy0, hy1, hy2⟩ := info_parts rinfo_y
  obtain ⟨i2, hi2, hx0, hx1, hx2⟩ := info_parts rinfo_as
  obtain ⟨i3, hi3, hw0, hw1, hw2⟩ := info_parts rinfo_ss
  go_enter Tryd.func27, Tryd.ntmps27
  go_upto_region 2 with fail
  rw [← HW.out]
  clear HW
  go_wp2_with fail
  refine (specAssets_any a n cap f _ (H.out.below HB.out) hs).mono ?_
  rintro e w1 ⟨rfl, hb⟩
  rw [HC.out]
  replace HOW := Lib.hid (rown_below HOW.out hb)
  have HL1 : Hid (w.heap.size < w1.heap.size) := by show _ < _; have := hb.size; have := HSZ.out; omega
  replace HB : Hid (Below w.heap.size w w1) := HB.out.trans (hb.mono HB.out.size)
  clear hb HSZ
  go_wp2_with fail
  refine (rl03_any ba m bc b _ (HBB.out.below HB.out) hm).mono ?_
  rintro e w2 ⟨rfl, hw⟩
  subst w2
  rw [HCB.out]
  clear HCB HC
  go_upto_region 5 with fail
  obtain ⟨W0, hW0⟩ : ∃ W0, W0 = w1.alloc (.cells #[] 2) := ⟨_, rfl⟩
  have hb0 : Below w1.heap.size w1 W0 := by rw [hW0]; exact nbel_alloc _ _
  have HYO : Hid (YoS w.heap.size 0 (Rn.own f n b) (.slice (some ⟨w.heap.size, 0, none⟩) 0 0) (.slice (some ⟨w1.heap.size, 0, none⟩) 0 0) [] W0) := ⟨_, _, rown_below HOW.out hb0, fun j hj => absurd hj (by omega), fun i j b hi => absurd hi (by omega), by rw [hW0]; exact rown_low (World.ownsRow_made w1 #[] 0 (Nat.le_refl _) (Nat.zero_le _) rfl) HB.out.size, fun j k hj => absurd hj (by omega)⟩
  replace HB : Hid (Below w.heap.size w W0) := HB.out.trans (hb0.mono HB.out.size)
  rw [← hW0]
  clear hW0 hb0 HOW
  go_wp2_with fail
  try dsimp only
  go_loopw [5, 6, 7, 8, 9, 10, 11, 12, 13] (fun ov dv yv _ _ _ _ _ _ wr => ∃ (y : Nat), y ≤ m ∧ yv = .int .i64 y ∧ Hid (YoS w.heap.size y (Rn.own f n b) ov dv (Rn.done f n b y) wr) ∧ Hid (Below w.heap.size w wr)) (fun _ _ yv _ _ _ _ _ _ _ => m - (intOf yv).toNat)
  case atStart => exact ⟨0, Nat.zero_le _, rfl, HYO, HB⟩
  case round =>
    obtain ⟨U, hU⟩ : ∃ U, U = wr := ⟨_, rfl⟩
    subst hU
    obtain ⟨y, hy, rfl, hY, hB⟩ := hrel
    clear HYO HB
    obtain ⟨⟨oa, oc, rfl⟩, da, dc, rfl⟩ := hY.out.shape
    by_cases hlt : y < m
    case neg =>
      obtain rfl : y = m := by omega
      obtain ⟨a9, c9, e9, hS⟩ := hY.out.ss
      cases e9
      have HEND := Lib.hid hS
      clear hS hY
      go_wp2_with fail
      go_ret
      exact ⟨⟨_, _, rfl, HEND.out⟩, hB.out⟩
    have hltz : (y : Int) < (m : Int) := by omega
    obtain ⟨D, hD⟩ : ∃ D, D = Rn.done f n b y := ⟨_, rfl⟩
    rw [← hD] at hY ⊢
    have hDl : D.length ≤ 800 := by
      rw [hD]
      have q1 := Rn.done_len f n b y
      have q2 : y * n ≤ 20 * 40 := Nat.mul_le_mul (by omega) hn40
      omega
    have HD := Lib.hid hD
    have HDA : Hid (IsAt da D.length (Rn.nf D) U) := by
      obtain ⟨a9, c9, e9, q⟩ := rls_own hY.out.done
      cases e9
      have q := q.at_
      rw [Nat.mul_one] at q
      exact q
    clear hD
    go_upto_region 10 with fail
    obtain ⟨X, hX⟩ : ∃ X, X = (U.alloc (.cells #[] 53)).alloc (.cells #[] 2) := ⟨_, rfl⟩
    have hbX : Below U.heap.size U X := by rw [hX]; exact (nbel_alloc _ _).alloc (by simp) _
    have HLO : Hid (X.ownsRow U.heap.size 53 2 (.slice (some ⟨U.heap.size, 0, none⟩) 0 0) 0 (Rn.asVs f [])) := by show World.ownsRow _ _ _ _ _ _ _; rw [hX]; exact rown_below (World.ownsRow_made U #[] 0 (Nat.le_refl _) (Nat.zero_le _) rfl) (nbel_alloc _ _)
    have HPO : Hid (X.ownsRow U.heap.size 2 1 (.slice (some ⟨U.heap.size + 1, 0, none⟩) 0 0) 0 (rnVs [])) := by
      show World.ownsRow _ _ _ _ _ _ _
      rw [hX]
      have q := World.ownsRow_made (U.alloc (.cells #[] 53)) (e := 2) (size := 1) #[] 0 (Nat.le_refl _) (Nat.zero_le _) rfl
      rw [World.size_alloc] at q
      exact rown_low q (by omega)
    have HBX := Lib.hid hbX
    rw [← hX]
    clear hX hbX
    go_wp2_with fail
    try dsimp only
    go_loopw [8, 9, 10] (fun lv pv iv V => ∃ (i : Nat), i ≤ n ∧ iv = .int .i64 i ∧ Hid (V.ownsRow U.heap.size 53 2 lv (Rn.qsTo D i).length (Rn.asVs f (Rn.qsTo D i))) ∧ Hid (V.ownsRow U.heap.size 2 1 pv (Rn.qsTo D i).length (rnVs (Rn.qsTo D i))) ∧ Hid (Below U.heap.size U V)) (fun _ _ iv _ => n - (intOf iv).toNat)
    case atStart => exact ⟨0, Nat.zero_le _, rfl, HLO, HPO, HBX⟩
    case round =>
      obtain ⟨V, hV0⟩ : ∃ V, V = wr := ⟨_, rfl⟩
      subst hV0
      obtain ⟨i, hi, rfl, hL, hP, hV⟩ := hrel
      clear HLO HPO HBX
      obtain ⟨la, lc, rfl⟩ := rown_shape hL.out
      obtain ⟨pa, pc, rfl⟩ := rown_shape hP.out
      by_cases hli : i < n
      · have hliz : (i : Int) < (n : Int) := by omega
        have hqn := Rn.qs_len D i
        obtain ⟨lb, e, c0, c1⟩ := (H.out.below (hB.out.trans (hV.out.mono hB.out.size))).at2 hli
        subst e
        have hsz := hV.out.size
        go_wp2_with fail
        refine (shas_any da D.length dc (Rn.nf D) i _ (HDA.out.below hV.out) (by omega)).mono ?_
        rintro e w3 ⟨rfl, hw⟩
        subst w3
        cases hc : D.contains i with
        | true =>
          rw [dB_tt (Rn.has_iff.2 hc)]
          have HA := Lib.hid (Rn.qs_yes hc)
          clear hc c0 c1
          go_wp2_with fail
          go_roundw
          case rel => exact ⟨i + 1, by omega, by go_num, by rw [HA.out]; exact hL.out, by rw [HA.out]; exact hP.out, hV⟩
          case measure => simp [intOf]; omega
        | false =>
          rw [dB_ff (Rn.has_not hc)]
          have HA := Lib.hid (Rn.qs_no hc)
          clear hc
          go_wp2_with (at_builtin; refine wpList_append_lies _ rfl _ _ 28 rfl (U.heap.size) 53 i2 (.agg #[.int .i64 0, .int .i64 0]) 2 16 Tryd.underlying28 hi2 hx0 hx1 hx2 rfl (by decide) _ _ _ rfl (hL.out.alloc _) ⟨V.heap.size, 0, none⟩ 1 1 [.int .i64 (f (i * 2)), .int .i64 (f (i * 2 + 1))] rfl rfl ?a1 ?a2 ?a3 ?a4 ?a5 ?a6 (V.heap.size + 1) ?a7 ?_)
          try (case a1 => (intro j u hj; match j, hj with
            | 0, hj => (simp at hj; subst hj; simp [Addr.add])
            | 1, hj => (simp at hj; subst hj; simp [Addr.add])))
          try (case a2 => first | rfl | (intro u hu; simp at hu; rcases hu with rfl | rfl <;> rfl))
          try (case a3 => omega)
          try (case a4 => (unfold maxLen; omega))
          try (case a5 => omega)
          try (case a6 => first | omega | (simp; omega))
          try (case a7 => simp)
          intro g cap_ W3 hown hgrow hat hlt3
          have HL3 : Hid (W3.ownsRow U.heap.size 53 2 (.slice (some ⟨g, 0, none⟩) ((Rn.qsTo D i).length + 1) cap_) (Rn.qsTo D (i + 1)).length (Rn.asVs f (Rn.qsTo D (i + 1)))) := by
            show World.ownsRow _ _ _ _ _ _ _
            rw [HA.out, Rn.asVs_app]
            simpa using hown
          have HP3 : Hid (W3.ownsRow U.heap.size 2 1 (.slice pa (Rn.qsTo D i).length pc) (Rn.qsTo D i).length (rnVs (Rn.qsTo D i))) := by
            refine rown_block (rown_below hP.out (nbel_alloc _ _)) (fun k e => hgrow.block k (Nat.lt_of_lt_of_le (own_lt hP.out e) (by simp)) (fun e2 => ?_))
            exact typ_ne (rown_typ hP.out e) (rown_typ hL.out e2.symm) (by decide) rfl
          have HV3 : Hid (Below U.heap.size U W3) := (hV.out.alloc hV.out.size _).grown hgrow (by simp; omega) (fun k hk => (hL.out.lt k hk).1)
          have hsz3 := HV3.out.size
          clear hown hgrow hat hlt3 hL hP hV c0 c1
          go_wp2_with (at_builtin; refine wpList_append_lies _ rfl _ _ 24 rfl (U.heap.size) 2 i1 (.int .i64 0) 1 8 Tryd.underlying24 hi1 hy0 hy1 hy2 rfl (by decide) _ _ _ rfl (HP3.out.alloc _) ⟨W3.heap.size, 0, none⟩ 1 1 [.int .i64 (i : Int)] rfl rfl ?a1 ?a2 ?a3 ?a4 ?a5 ?a6 (W3.heap.size + 1) ?a7 ?_)
          try (case a1 => (intro j u hj; match j, hj with
            | 0, hj => (simp at hj; subst hj; simp [Addr.add])))
          try (case a2 => first | rfl | (intro u hu; simp at hu; subst hu; rfl))
          try (case a3 => omega)
          try (case a4 => (unfold maxLen; omega))
          try (case a5 => omega)
          try (case a6 => first | omega | (simp; omega))
          try (case a7 => simp)
          intro g2 cap2 W4 hown hgrow hat hlt3
          have HP4 : Hid (W4.ownsRow U.heap.size 2 1 (.slice (some ⟨g2, 0, none⟩) ((Rn.qsTo D i).length + 1) cap2) (Rn.qsTo D (i + 1)).length (rnVs (Rn.qsTo D (i + 1)))) := by
            show World.ownsRow _ _ _ _ _ _ _
            rw [HA.out, rnVs_app]
            simpa using hown
          have HL4 : Hid (W4.ownsRow U.heap.size 53 2 (.slice (some ⟨g, 0, none⟩) ((Rn.qsTo D i).length + 1) cap_) (Rn.qsTo D (i + 1)).length (Rn.asVs f (Rn.qsTo D (i + 1)))) := by
            refine rown_block (rown_below HL3.out (nbel_alloc _ _)) (fun k e => hgrow.block k (Nat.lt_of_lt_of_le (own_lt HL3.out e) (by simp)) (fun e2 => ?_))
            exact typ_ne (rown_typ HL3.out e) (rown_typ HP3.out e2.symm) (by decide) rfl
          have HV4 : Hid (Below U.heap.size U W4) := (HV3.out.alloc HV3.out.size _).grown hgrow (by simp; omega) (fun k hk => (HP3.out.lt k hk).1)
          clear hown hgrow hat hlt3 HL3 HP3 HV3
          go_wp2_with fail
          go_roundw
          case rel => exact ⟨i + 1, by omega, by go_num, HL4, HP4, HV4⟩
          case measure => simp [intOf]; omega
      obtain rfl : i = n := by omega
      have hQR : Rn.qsTo D i = Rn.rem f i b y := by rw [HD.out]; exact Rn.rem_filter HRT.out b y
      obtain ⟨R, hR⟩ : ∃ R, R = Rn.rem f i b y := ⟨_, rfl⟩
      rw [hQR, ← hR] at hL hP ⊢
      clear hQR
      have hinv := Rn.rem_inv f i b y
      rw [← hR] at hinv
      have hRl : R.length ≤ 40 := by omega
      have HRR : Hid (Rn.Right R.length (Rn.sub f R)) := by show Rn.Right _ _; rw [hR]; exact Rn.rem_right HRT.out b y
      obtain ⟨P, hPd⟩ : ∃ P, P = Rn.pk f R (b y) := ⟨_, rfl⟩
      have HOWN : Hid (Rn.own f i b y = Rn.tkn R P) := by show Rn.own f i b y = _; unfold Rn.own; rw [← hR, ← hPd]
      have HPL2 : Hid (∀ x, x ∈ P → x < R.length) := fun x hx => by rw [hPd] at hx; exact Rn.picks_lt HRR.out hx
      have hPl : P.length ≤ 40 := by rw [hPd]; exact Nat.le_trans (Rn.picks_len _ _ _) hRl
      have HBS : Hid ((Rn.bs R.length (Rn.sub f R) (b y)).m = P.length ∧ (Rn.bs R.length (Rn.sub f R) (b y)).L = Rn.nf P) := by
        show _ ∧ _
        unfold Rn.bs
        rw [if_neg (by omega), if_pos (dB_tt ⟨HRR.out, HBK.out y hlt⟩), hPd]
        exact ⟨rfl, rfl⟩
      clear hR hPd hinv
      obtain ⟨la', lc', e9, hLA, _⟩ := ras_own hL.out
      cases e9
      obtain ⟨pa', pc', e9, hPA⟩ := rls_own hP.out
      cases e9
      have HLA := Lib.hid hLA
      have HPA : Hid (IsAt pa R.length (Rn.nf R) V) := by have q := hPA.at_; rw [Nat.mul_one] at q; exact q
      replace hY := Lib.hid (hY.out.below hV.out)
      replace hB := Lib.hid (hB.out.trans (hV.out.mono hB.out.size))
      obtain ⟨bb, e, cb⟩ := (HBB.out.below hB.out).at1 hlt
      subst e
      clear hLA hPA hL hP hV
      go_wp2_with fail
      refine (specBest_any la R.length lc (Rn.sub f R) (b y) _ HLA.out (by omega)).mono ?_
      rintro e w5 ⟨⟨ka, kc, rfl, hK⟩, hb⟩
      rw [HBS.out.1, HBS.out.2] at hK
      have HK : Hid (IsAt ka P.length (Rn.nf P) w5) := by have q := hK.at_; rw [Nat.mul_one] at q; exact q
      replace HPA := Lib.hid (HPA.out.below hb)
      replace hY := Lib.hid (hY.out.below hb)
      replace hB := Lib.hid (hB.out.trans (hb.mono hB.out.size))
      obtain ⟨O, hO⟩ : ∃ O, O = Rn.bs R.length (Rn.sub f R) (b y) := ⟨_, rfl⟩
      rw [← hO] at HBS ⊢
      rw [HBS.out.1]
      have hfld := fun w => ro_picks O.cs O.wo O.cd P.length ka kc w
      clear hb hK cb HLA hO HBS
      go_upto_region 18 with fail
      clear hfld
      obtain ⟨Z, hZ⟩ : ∃ Z, Z = w5.alloc (.cells #[] 2) := ⟨_, rfl⟩
      have hbZ : Below w5.heap.size w5 Z := by rw [hZ]; exact nbel_alloc _ _
      have HZO : Hid (Z.ownsRow w5.heap.size 2 1 (.slice (some ⟨w5.heap.size, 0, none⟩) 0 0) (Rn.tkn R (P.take 0)).length (rnVs (Rn.tkn R (P.take 0)))) := by show World.ownsRow _ _ _ _ _ _ _; rw [hZ]; exact World.ownsRow_made w5 #[] 0 (Nat.le_refl _) (Nat.zero_le _) rfl
      have HZB := Lib.hid hbZ
      rw [← hZ]
      clear hZ hbZ
      go_wp2_with fail
      try dsimp only
      go_loopw [12, 13] (fun ov jv V => ∃ (j : Nat), j ≤ P.length ∧ jv = .int .i64 j ∧ Hid (V.ownsRow w5.heap.size 2 1 ov (Rn.tkn R (P.take j)).length (rnVs (Rn.tkn R (P.take j)))) ∧ Hid (Below w5.heap.size w5 V)) (fun _ jv _ => P.length - (intOf jv).toNat)
      case atStart => exact ⟨0, Nat.zero_le _, rfl, HZO, HZB⟩
      case round =>
        obtain ⟨V2, hV0⟩ : ∃ V2, V2 = wr := ⟨_, rfl⟩
        subst hV0
        obtain ⟨j, hj, rfl, hO, hV⟩ := hrel
        clear HZO HZB
        obtain ⟨wa, wc, rfl⟩ := rown_shape hO.out
        by_cases hlj : j < P.length
        · have hljz : (j : Int) < (P.length : Int) := by omega
          obtain ⟨kb, e, c0⟩ := (HK.out.below hV.out).at1 hlj
          subst e
          obtain ⟨q, hq⟩ : ∃ q, q = P.getD j 0 := ⟨_, rfl⟩
          have hqL : q < R.length := by rw [hq]; exact HPL2.out _ (Rn.getD_mem hlj)
          have hqz : (q : Int) < (R.length : Int) := by omega
          obtain ⟨pb, e, c1⟩ := (HPA.out.below hV.out).at1 hqL
          subst e
          rw [show Rn.nf P j = (q : Int) by rw [hq]; rfl] at c0
          obtain ⟨x, hx⟩ : ∃ x, x = R.getD q 0 := ⟨_, rfl⟩
          rw [show Rn.nf R q = (x : Int) by rw [hx]; rfl] at c1
          have HA : Hid (Rn.tkn R (P.take (j + 1)) = Rn.tkn R (P.take j) ++ [x]) := by
            show Rn.tkn _ _ = _
            rw [List.take_succ_eq_append_getElem hlj]
            unfold Rn.tkn
            rw [List.map_append, hx, hq, List.getD_eq_getElem?_getD (l := P), List.getElem?_eq_getElem hlj]
            rfl
          have hlen : (Rn.tkn R (P.take j)).length ≤ 1000 := by unfold Rn.tkn; rw [List.length_map, List.length_take]; omega
          have hsz := hV.out.size
          clear hq hx
          go_wp2_with (at_builtin; refine wpList_append_lies _ rfl _ _ 24 rfl (w5.heap.size) 2 i1 (.int .i64 0) 1 8 Tryd.underlying24 hi1 hy0 hy1 hy2 rfl (by decide) _ _ _ rfl (hO.out.alloc _) ⟨V2.heap.size, 0, none⟩ 1 1 [.int .i64 (x : Int)] rfl rfl ?a1 ?a2 ?a3 ?a4 ?a5 ?a6 (V2.heap.size + 1) ?a7 ?_)
          try (case a1 => (intro j u hj; match j, hj with
            | 0, hj => (simp at hj; subst hj; simp [Addr.add])))
          try (case a2 => first | rfl | (intro u hu; simp at hu; subst hu; rfl))
          try (case a3 => omega)
          try (case a4 => (unfold maxLen; omega))
          try (case a5 => omega)
          try (case a6 => first | omega | (simp; omega))
          try (case a7 => simp)
          intro g cap_ W3 hown hgrow hat hlt3
          have HO3 : Hid (W3.ownsRow w5.heap.size 2 1 (.slice (some ⟨g, 0, none⟩) ((Rn.tkn R (P.take j)).length + 1) cap_) (Rn.tkn R (P.take (j + 1))).length (rnVs (Rn.tkn R (P.take (j + 1))))) := by
            show World.ownsRow _ _ _ _ _ _ _
            rw [HA.out, rnVs_app]
            simpa using hown
          have HB3 : Hid (Below w5.heap.size w5 W3) := (hV.out.alloc hV.out.size _).grown hgrow (by simp; omega) (fun k hk => (hO.out.lt k hk).1)
          clear hown hgrow hat hlt3 hO hV HA c0 c1
          go_wp2_with fail
          go_roundw
          case rel => exact ⟨j + 1, by omega, by go_num, HO3, HB3⟩
          case measure => simp [intOf]; omega
        obtain rfl : j = P.length := by omega
        have e : (Rn.tkn R (P.take P.length)).length = (Rn.own f i b y).length := by rw [List.take_length, HOWN.out]
        have HO2 : Hid (V2.ownsRow w5.heap.size 2 1 (.slice wa (Rn.own f i b y).length wc) (Rn.own f i b y).length (rnVs (Rn.own f i b y))) := by
          have q := hO.out
          rw [List.take_length, ← HOWN.out] at q
          exact q
        rw [e]
        have hDsz : w.heap.size ≤ w5.heap.size := hB.out.size
        have HV := Lib.hid hV.out
        replace hB := Lib.hid (hB.out.trans (hV.out.mono hB.out.size))
        clear e hO hV HK HPA
        obtain ⟨aj, cj, h1, h2, h3, h4, h5⟩ := hY.out
        have H1 := Lib.hid (rown_below h1 HV.out)
        have HSZ : w5.heap.size ≤ V2.heap.size := HV.out.size
        have HNX : Hid (∀ (W3 : World) (g cap : Nat), W3.ownsRow w.heap.size 24 1 (.slice (some ⟨g, 0, none⟩) (y + 1) cap) (y + 1) (rowVs aj (Rn.own f i b) cj y ++ [.slice wa (Rn.own f i b y).length wc]) → (V2.alloc (.cells #[.slice wa (Rn.own f i b y).length wc] 24)).grownBy W3 (Value.slice oa y oc).ownBlock → YoS w.heap.size (y + 1) (Rn.own f i b) (.slice (some ⟨g, 0, none⟩) (y + 1) cap) (.slice da D.length dc) D W3) := fun W3 g cap ho hgr => yos_push h1 h2 h3 h4 h5 HV.out hDsz HO2.out ho hgr
        have hOl : (Rn.own f i b y).length ≤ 40 := Nat.le_trans (Rn.own_len f i b y) hn40
        clear h1 h2 h3 h4 h5 hY
        go_wp2_with (at_builtin; refine wpList_append_lies _ rfl _ _ 43 rfl (w.heap.size) 24 i3 (.slice none 0 0) 1 24 Tryd.underlying43 hi3 hw0 hw1 hw2 rfl (by decide) _ _ _ rfl (H1.out.alloc _) ⟨V2.heap.size, 0, none⟩ 1 1 [.slice wa (Rn.own f i b y).length wc] rfl rfl ?a1 ?a2 ?a3 ?a4 ?a5 ?a6 (V2.heap.size + 1) ?a7 ?_)
        try (case a1 => (intro j u hj; match j, hj with
          | 0, hj => (simp at hj; subst hj; simp [Addr.add])))
        try (case a2 => first | rfl | (intro u hu; simp at hu; subst hu; rfl))
        try (case a3 => omega)
        try (case a4 => (unfold maxLen; omega))
        try (case a5 => omega)
        try (case a6 => first | omega | (simp; omega))
        try (case a7 => simp)
        intro g cap_ W3 hown hgrow hat hlt3
        have HY3 := Lib.hid (HNX.out W3 g cap_ (by simpa using hown) hgrow)
        have HB3 : Hid (Below w.heap.size w W3) := (hB.out.alloc hB.out.size _).grown hgrow (by simp; have := hB.out.size; omega) (fun k hk => (H1.out.lt k hk).1)
        have HO3 : Hid (W3.ownsRow w5.heap.size 2 1 (.slice wa (Rn.own f i b y).length wc) (Rn.own f i b y).length (rnVs (Rn.own f i b y))) := by
          refine rown_block (rown_below HO2.out (nbel_alloc _ _)) (fun k e => hgrow.block k (Nat.lt_of_lt_of_le (own_lt HO2.out e) (by simp)) (fun e2 => ?_))
          exact typ_ne (rown_typ HO2.out e) (rown_typ H1.out e2.symm) (by decide) rfl
        have HDN : Hid (Rn.done f i b (y + 1) = D ++ Rn.own f i b y) := by show Rn.done f i b y ++ _ = _; rw [HD.out]
        clear hown hgrow hat hlt3 HNX H1 HO2 hB HV HDA
        obtain ⟨M, hM⟩ : ∃ M, M = (Rn.own f i b y).length := ⟨_, rfl⟩
        rw [← hM] at HO3 hOl ⊢
        have HM := Lib.hid hM
        clear hM
        by_cases hM0 : M = 0
        · subst hM0
          have hON : Rn.own f i b y = [] := List.length_eq_zero_iff.1 HM.out.symm
          have HY4 : Hid (YoS w.heap.size (y + 1) (Rn.own f i b) (.slice (some ⟨g, 0, none⟩) (y + 1) cap_) (.slice da D.length dc) (Rn.done f i b (y + 1)) W3) := by
            rw [HDN.out, hON, List.append_nil]
            exact HY3.out
          clear hON
          go_wp2_with (at_builtin; refine wpList_append_zero rfl _ _ 24 rfl w.heap.size 2 i1 1 Tryd.underlying24 hi1 _ _ _ rfl HY3.out.done wa wc rfl ?_)
          go_roundw
          case rel => exact ⟨y + 1, by omega, by go_num, HY4, HB3⟩
          case measure => simp [intOf]; omega
        have hsh : ∃ x, wa = some ⟨x, 0, none⟩ := by
          rcases HO3.out.2 with q | ⟨x, _, _, e, _⟩
          · exact absurd q.2 hM0
          · injection e with e _ _
            exact ⟨x, e⟩
        obtain ⟨wx, rfl⟩ := hsh
        have HCL : Hid (∀ j u, (rnVs (Rn.own f i b y))[j]? = some u → W3.cell? ((⟨wx, 0, none⟩ : Addr).add j) = some u) := fun j u hj => by
          have hjl : j < M := by
            have := (List.getElem?_eq_some_iff.1 hj).1
            unfold rnVs at this
            rw [List.length_map] at this
            rw [HM.out]
            exact this
          rw [Addr.add_lit, Nat.zero_add, HO3.out.cellAt j (by omega)]
          exact hj
        have HNL : Hid ((rnVs (Rn.own f i b y)).length = M * 1) := by show _ = _; unfold rnVs; rw [List.length_map, HM.out]; simp
        have HN1 : Hid (∀ u ∈ rnVs (Rn.own f i b y), u.oneCell' = true) := fun u hu => by
          unfold rnVs at hu
          obtain ⟨x, _, rfl⟩ := List.mem_map.1 hu
          rfl
        have hsz3 := HB3.out.size
        go_wp2_with (at_builtin; refine wpList_append_lies _ rfl _ _ 24 rfl (w.heap.size) 2 i1 (.int .i64 0) 1 8 Tryd.underlying24 hi1 hy0 hy1 hy2 rfl (by decide) _ _ _ rfl HY3.out.done ⟨wx, 0, none⟩ M wc (rnVs (Rn.own f i b y)) rfl HNL.out HCL.out HN1.out ?a3 ?a4 ?a5 ?a6 W3.heap.size rfl ?_)
        try (case a3 => omega)
        try (case a4 => (unfold maxLen; omega))
        try (case a5 => omega)
        try (case a6 => omega)
        intro g2 cap2 W4 hown hgrow hat hlt3
        have HY4 : Hid (YoS w.heap.size (y + 1) (Rn.own f i b) (.slice (some ⟨g, 0, none⟩) (y + 1) cap_) (.slice (some ⟨g2, 0, none⟩) (D.length + M) cap2) (Rn.done f i b (y + 1)) W4) := by
          refine HY3.out.more hgrow ?_ hat rfl
          rw [HDN.out]
          have e : rnVs (D ++ Rn.own f i b y) = rnVs D ++ rnVs (Rn.own f i b y) := by simp [rnVs]
          rw [e, List.length_append, ← HM.out]
          exact hown
        have HB4 : Hid (Below w.heap.size w W4) := HB3.out.grown hgrow (by omega) (fun k hk => (HY3.out.done.lt k hk).1)
        clear hown hgrow hat hlt3 HY3 HB3 HO3
        go_wp2_with fail
        go_roundw
        case rel => exact ⟨y + 1, by omega, by go_num, HY4, HB4⟩
        case measure => simp [intOf]; omega
end Go.Proofs.YtbkpedcabbppbaaDoor
