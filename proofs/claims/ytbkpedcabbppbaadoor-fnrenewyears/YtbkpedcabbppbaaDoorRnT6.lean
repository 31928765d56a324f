/-
  RenewTableRight: the program's and the model's.
-/
import Derived.Test.YtbkpedcabbppbaaDoorRnT5
namespace Go.Proofs.YtbkpedcabbppbaaDoor
open Go.RowKit Go.Deep

/-- The same numbers; the same rows. -/
def SmR (n1 : Nat) (f : Nat → Int) (n2 : Nat) (g : Nat → Int) : Prop := n1 = n2 ∧ ∀ i, i < n1 → f i = g i
def SmS (m1 : Nat) (LN1 : Nat → Nat) (L1 : Nat → Nat → Int) (m2 : Nat) (LN2 : Nat → Nat) (L2 : Nat → Nat → Int) : Prop := m1 = m2 ∧ ∀ i, i < m1 → SmR (LN1 i) (L1 i) (LN2 i) (L2 i)
set_option maxRecDepth 100000 in
set_option maxHeartbeats 2000000 in
theorem requal_any (a b : Option Addr) (n1 n2 ca cb : Nat) (f g : Nat → Int) (w : World) (h1 : IsAt a n1 f w) (h2 : IsAt b n2 g w) (hn : n1 ≤ 1048576) (hn2 : n2 ≤ 1048576) :
    Calls Tryd.prog 50 #[.slice a n1 ca, .slice b n2 cb] w fun e w' => e = .returned (.bool (dB (SmR n1 f n2 g))) ∧ Below w.heap.size w w' := by
  by_cases hnn : n1 = n2
  case neg =>
    have hne : ((n1 : Int) != (n2 : Int)) = true := by simp; omega
    have HE := Lib.hid (dB_ff (fun x : SmR n1 f n2 g => hnn x.1))
    clear hnn
    go_enter Tryd.func50, Tryd.ntmps50
    go_wp2_with fail
    go_ret
    exact ⟨by rw [HE.out]; rfl, Below.refl _ _⟩
  subst hnn
  have hne : ((n1 : Int) != (n1 : Int)) = false := by simp
  have H1 := Lib.hid h1
  have H2 := Lib.hid h2
  clear h1 h2
  go_enter Tryd.func50, Tryd.ntmps50
  go_wp2_with fail
  go_loopw [13] (fun iv wr => ∃ (i : Nat), i ≤ n1 ∧ iv = .int .i64 i ∧ Hid (∀ j, j < i → f j = g j) ∧ Hid (Below w.heap.size w wr)) (fun iv _ => n1 - (intOf iv).toNat)
  case atStart => exact ⟨0, Nat.zero_le _, rfl, fun j hj => absurd hj (Nat.not_lt_zero _), Below.refl _ _⟩
  case round =>
    obtain ⟨i, hi, rfl, hsm, hB⟩ := hrel
    by_cases hlt : i < n1
    · have hltz : (i : Int) < (n1 : Int) := by omega
      have hi00 : (0 : Int) ≤ (i : Int) := by omega
      obtain ⟨g1, rfl, k1⟩ := (H1.out.below hB.out).at1 hlt
      obtain ⟨g2, rfl, k2⟩ := (H2.out.below hB.out).at1 hlt
      by_cases hq : f i = g i
      · have HY : Hid (∀ j, j < i + 1 → f j = g j) := fun j hj => by
          by_cases e : j = i
          · subst e; exact hq
          · exact hsm.out j (by omega)
        have hq2 : (f i != g i) = false := by simp [hq]
        rw [hq] at k1
        clear hq
        go_wp2_with fail
        go_quiet (fail)
        go_wp2_with fail
        go_roundw
        case rel => exact ⟨i + 1, by omega, by go_num, HY, ndrewN hB.out _⟩
        case measure => simp [intOf]; omega
      · have HN : Hid (dB (SmR n1 f n1 g) = false) := dB_ff (fun x => hq (x.2 i hlt))
        have hq2 : (f i != g i) = true := by simp [hq]
        go_wp2_with fail
        go_quiet (fail)
        go_wp2_with fail
        go_ret
        exact ⟨by rw [HN.out]; rfl, ndrewN hB.out _⟩
    · obtain rfl : n1 = i := by omega
      have HE := Lib.hid (dB_tt (show SmR n1 f n1 g from ⟨rfl, hsm.out⟩))
      go_wp2_with fail
      go_ret
      exact ⟨by rw [HE.out]; rfl, hB.out⟩
set_option maxRecDepth 100000 in
set_option maxHeartbeats 2000000 in
theorem requalF_any (a b : Option Addr) (m1 m2 ca cb : Nat) (LN1 LN2 : Nat → Nat) (L1 L2 : Nat → Nat → Int) (w : World) (h1 : LsAt a m1 LN1 L1 w) (h2 : LsAt b m2 LN2 L2 w) (hn : m1 ≤ 1048576) (hn2 : m2 ≤ 1048576) (hl1 : ∀ i, i < m1 → LN1 i ≤ 1048576) (hl2 : ∀ i, i < m2 → LN2 i ≤ 1048576) :
    Calls Tryd.prog 49 #[.slice a m1 ca, .slice b m2 cb, .func (.func 50) #[] #[]] w fun e w' => e = .returned (.bool (dB (SmS m1 LN1 L1 m2 LN2 L2))) ∧ Below w.heap.size w w' := by
  by_cases hnn : m1 = m2
  case neg =>
    have hne : ((m1 : Int) != (m2 : Int)) = true := by simp; omega
    have HE := Lib.hid (dB_ff (fun x : SmS m1 LN1 L1 m2 LN2 L2 => hnn x.1))
    clear hnn hl1 hl2 h1 h2
    go_enter Tryd.func49, Tryd.ntmps49
    go_wp2_with fail
    go_ret
    exact ⟨by rw [HE.out]; rfl, Below.refl _ _⟩
  subst hnn
  have hne : ((m1 : Int) != (m1 : Int)) = false := by simp
  have H1 := Lib.hid h1
  have H2 := Lib.hid h2
  have HL1 := Lib.hid hl1
  have HL2 := Lib.hid hl2
  clear h1 h2 hl1 hl2
  go_enter Tryd.func49, Tryd.ntmps49
  go_wp2_with fail
  go_loopw [7, 8, 9, 17] (fun _ _ _ iv wr => ∃ (i : Nat), i ≤ m1 ∧ iv = .int .i64 i ∧ Hid (∀ j, j < i → SmR (LN1 j) (L1 j) (LN2 j) (L2 j)) ∧ Hid (Below w.heap.size w wr)) (fun _ _ _ iv _ => m1 - (intOf iv).toNat)
  case atStart => exact ⟨0, Nat.zero_le _, rfl, fun j hj => absurd hj (Nat.not_lt_zero _), Below.refl _ _⟩
  case round =>
    obtain ⟨i, hi, rfl, hsm, hB⟩ := hrel
    by_cases hlt : i < m1
    · have hltz : (i : Int) < (m1 : Int) := by omega
      obtain ⟨g1, rfl, a1, c1, k1, r1⟩ := (H1.out.below hB.out).one hlt
      obtain ⟨g2, rfl, a2, c2, k2, r2⟩ := (H2.out.below hB.out).one hlt
      have R1 := Lib.hid r1
      have R2 := Lib.hid r2
      clear r1 r2
      go_wp2_with fail
      refine (requal_any a1 a2 (LN1 i) (LN2 i) c1 c2 (L1 i) (L2 i) _ R1.out R2.out (HL1.out i hlt) (HL2.out i hlt)).mono ?_
      rintro e w1 ⟨rfl, hb⟩
      have HB1 : Hid (Below w.heap.size w w1) := hB.out.trans (hb.mono hB.out.size)
      clear hb k1 k2 R1 R2 hB
      by_cases hq : SmR (LN1 i) (L1 i) (LN2 i) (L2 i)
      · rw [dB_tt hq]
        have HY : Hid (∀ j, j < i + 1 → SmR (LN1 j) (L1 j) (LN2 j) (L2 j)) := fun j hj => by
          by_cases e : j = i
          · subst e; exact hq
          · exact hsm.out j (by omega)
        clear hq
        go_wp2_with fail
        go_roundw
        case rel => exact ⟨i + 1, by omega, by go_num, HY, HB1⟩
        case measure => simp [intOf]; omega
      · rw [dB_ff hq]
        have HN : Hid (dB (SmS m1 LN1 L1 m1 LN2 L2) = false) := dB_ff (fun x => hq (x.2 i hlt))
        clear hq
        go_wp2_with fail
        go_ret
        exact ⟨by rw [HN.out]; rfl, HB1.out⟩
    · obtain rfl : m1 = i := by omega
      have HE := Lib.hid (dB_tt (show SmS m1 LN1 L1 m1 LN2 L2 from ⟨rfl, hsm.out⟩))
      go_wp2_with fail
      go_ret
      exact ⟨by rw [HE.out]; rfl, hB.out⟩
/-- A table is right. -/
def Rn.TbOk (n : Nat) (f : Nat → Int) (z : Int) (m : Nat) (LN : Nat → Nat) (L : Nat → Nat → Int) : Prop := (Rn.Right n f ∧ Rn.BudOk z) ∧ SmS m LN L (Rn.tn n f z) (fun _ => z.toNat + 1) (Rn.T f n)
set_option maxRecDepth 100000 in
set_option maxHeartbeats 2000000 in
theorem implTR_any (a : Option Addr) (n cap : Nat) (f : Nat → Int) (z : Int) (ta : Option Addr) (m tc : Nat) (LN : Nat → Nat) (L : Nat → Nat → Int) (w : World) (h : IsAt a (n * 2) f w) (hs : n ≤ 1048576) (ht : LsAt ta m LN L w) (hm : m ≤ 1048576) (hl : ∀ i, i < m → LN i ≤ 1048576) :
    Calls Tryd.prog 24 #[.slice a n cap, .int .i64 z, .slice ta m tc] w fun e w' => e = .returned (.bool (dB (Rn.TbOk n f z m LN L))) ∧ Below w.heap.size w w' := by
  have H := Lib.hid h
  have HT := Lib.hid ht
  have HL := Lib.hid hl
  clear h ht hl
  go_enter Tryd.func24, Tryd.ntmps24
  go_wp2_with fail
  refine (rright_any a n cap f z _ H.out hs).mono ?_
  rintro e w1 ⟨rfl, hb⟩
  have HB := Lib.hid hb
  clear hb
  by_cases c : Rn.Right n f ∧ Rn.BudOk z
  case neg =>
    rw [dB_ff c]
    have HE := Lib.hid (dB_ff (fun x : Rn.TbOk n f z m LN L => c x.1))
    clear c
    go_wp2_with fail
    go_ret
    exact ⟨by rw [HE.out]; rfl, HB.out⟩
  rw [dB_tt c]
  have HC := Lib.hid c
  have hN : z.toNat ≤ 300 := by have := c.2.2; omega
  clear c
  go_wp2_with fail
  refine (implTable_any a n cap f z _ (H.out.below HB.out) hs).mono ?_
  rintro e w2 ⟨⟨b, k, rfl, hS⟩, hb⟩
  have HS := Lib.hid hS.at_
  replace HB : Hid (Below w.heap.size w w2) := HB.out.trans (hb.mono HB.out.size)
  have hm2 := Rn.tn_le n f z
  obtain ⟨m2, hm2e⟩ : ∃ m2, m2 = Rn.tn n f z := ⟨_, rfl⟩
  rw [← hm2e] at HS hm2
  have HM2 := Lib.hid hm2e
  rw [← hm2e]
  clear hS hb hm2e
  go_wp2_with fail
  refine (requalF_any ta b m m2 tc k LN (fun _ => z.toNat + 1) L (Rn.T f n) _ (HT.out.below HB.out) HS.out hm (by omega) HL.out (fun i hi => by omega)).mono ?_
  rintro e w3 ⟨rfl, hb⟩
  have HB3 : Hid (Below w.heap.size w w3) := HB.out.trans (hb.mono HB.out.size)
  have HE : Hid (dB (SmS m LN L m2 (fun _ => z.toNat + 1) (Rn.T f n)) = dB (Rn.TbOk n f z m LN L)) := dB_congr (by rw [HM2.out]; exact ⟨fun x => ⟨HC.out, x⟩, fun x => x.2⟩)
  clear hb HS HB
  rw [HE.out]
  clear HE HM2
  obtain ⟨bb, hbb⟩ : ∃ bb, bb = dB (Rn.TbOk n f z m LN L) := ⟨_, rfl⟩
  rw [← hbb]
  have HBB := Lib.hid hbb
  clear hbb
  cases bb
  all_goals
    go_wp2_with fail
    go_ret
    exact ⟨by rw [← HBB.out]; rfl, HB3.out⟩
end Go.Proofs.YtbkpedcabbppbaaDoor
