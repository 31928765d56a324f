/-
  Joined: NtLawO.
-/
import Derived.Test.YteeieoggmoobiaaDoorNtBgD
import Derived.Test.YteeieoggmoobiaaDoorNtBgS
import Derived.Test.YteeieoggmoobiaaDoorNtLs2
import Derived.Test.YteeieoggmoobiaaDoorEt
import Derived.BigQuiet
namespace Go.Proofs.YteeieoggmoobiaaDoor
open Go Go.RowKit Go.Deep

set_option maxRecDepth 100000 in
set_option maxHeartbeats 2000000 in
theorem nsame_same (a b : Option Addr) (n ca cb : Nat) (f : Nat → Int) (w : World) (h1 : IsAt a n f w) (h2 : IsAt b n f w) (hn : n ≤ 1048576) :
    Calls Tryd.prog 12 #[.slice a n ca, .slice b n cb] w fun e w' => e = .returned (.bool true) ∧ Below w.heap.size w w' := by
  have H1 := Lib.hid h1
  have H2 := Lib.hid h2
  clear h1 h2
  go_enter Tryd.func12, Tryd.ntmps12
  go_wp2_with fail
  go_loopw [5] (fun iv wr => ∃ (i : Nat), i ≤ n ∧ iv = .int .i64 i ∧ Hid (Below w.heap.size w wr)) (fun iv _ => n - (intOf iv).toNat)
  case atStart => exact ⟨0, Nat.zero_le _, rfl, Below.refl _ _⟩
  case round =>
    obtain ⟨i, hi, rfl, hB⟩ := hrel
    by_cases hlt : i < n
    · have hltz : (i : Int) < (n : Int) := by omega
      obtain ⟨b1, rfl, k1⟩ := (H1.out.below hB.out).at1 hlt
      obtain ⟨b2, rfl, k2⟩ := (H2.out.below hB.out).at1 hlt
      go_wp2_with fail
      go_region
      go_wp2_with fail
      go_roundw
      case rel => exact ⟨i + 1, by omega, by go_num, hB.out.drew⟩
      case measure => simp [intOf]; omega
    · obtain rfl : i = n := by omega
      go_wp2_with fail
      go_ret
      exact ⟨rfl, hB.out⟩

/-- What stands in the law. -/
structure NlS (s3 : Nat) (n : Nt.Net) (la : Option Addr) (lk : Nat) (fa : Option Addr) (fk : Nat) (wa : Option Addr) (wk : Nat) (w W : World) : Prop where
  row : W.rowIs s3 27 4 (rowN (ntL n la lk fa fk wa wk))
  at_ : NtAt n la fa wa W
  bel : Below w.heap.size w W
  et : NEt W
theorem NlS.below {s3 : Nat} {n : Nt.Net} {la : Option Addr} {lk : Nat} {fa : Option Addr} {fk : Nat} {wa : Option Addr} {wk : Nat} {w W W' : World} (h : NlS s3 n la lk fa fk wa wk w W) (hb : Below W.heap.size W W') : NlS s3 n la lk fa fk wa wk w W' :=
  ⟨nrow_below h.row hb, h.at_.below hb, h.bel.trans (hb.mono h.bel.size), h.et.below hb⟩
/-- The nodes that are told loose: a list in memory. -/
def lsF (n : Nt.Net) (j : Nat) : Int := (Nt.loose n).getD j 0
theorem ls_at {n : Nt.Net} {B : Nat} {v : Value} {W : World} (h : W.ownsRow B 2 1 v (Nt.loose n).length (isVs (Nt.loose n))) : ∃ a c, v = .slice a (Nt.loose n).length c ∧ IsAt a (Nt.loose n).length (lsF n) W := by
  obtain ⟨a, c, e, h1, _⟩ := md_isat (zs := Nt.loose n) h
  rw [Nat.mul_one] at h1
  exact ⟨a, c, e, h1⟩
theorem ls_first {n : Nt.Net} (hr : Nt.Right n) (h : 0 < (Nt.loose n).length) : Nt.svLo n = some (lsF n 0) := by
  rw [Nt.svLo_yes hr]
  unfold lsF
  cases hL : Nt.loose n with
  | nil => rw [hL] at h; simp at h
  | cons x xs => rfl
theorem ls_none {n : Nt.Net} (hr : Nt.Right n) (h : (Nt.loose n).length = 0) : Nt.svLo n = none := by
  rw [Nt.svLo_yes hr, List.length_eq_zero_iff.1 h]
  rfl
theorem sv_not4 {n : Nt.Net} (hr : Nt.Right n) : Nt.svAll n ≠ 4 := by
  rw [Nt.svAll_yes hr]
  by_cases h : Nt.SvGood n
  · rw [Nt.svCode_ok h]; decide
  · rw [Nt.svCode_no h]; decide
/-- What NetSolve tells of a right net, as the law needs it. -/
theorem nl_told {n : Nt.Net} {B N : Nat} {f : Nat → Int} {e : Ending} {W : World} (hr : Nt.Right n) (h : ToldL B (Nt.svLo n) (Nt.svAll n) N f e W) :
    ∃ (a : Option Addr) (m c : Nat) (at_ code : Int), e = .returned (noV a m c at_ code) ∧ ((Nt.loose n).length = 0 → code ≠ 4) ∧ (0 < (Nt.loose n).length → code = 4 ∧ at_ = lsF n 0) := by
  rcases h with ⟨c, h1, rfl⟩ | ⟨h1, h2⟩
  · refine ⟨none, 0, 0, c, 4, rfl, fun h => ?_, fun h => ⟨rfl, ?_⟩⟩
    · rw [ls_none hr h] at h1; cases h1
    · rw [ls_first hr h] at h1; cases h1; rfl
  · have h0 : (Nt.loose n).length = 0 := by
      rcases Nat.eq_zero_or_pos (Nt.loose n).length with h | h
      · exact h
      · rw [ls_first hr h] at h1; cases h1
    rcases h2 with ⟨h3, g, k, rfl, _, _⟩ | ⟨h3, rfl⟩
    · exact ⟨_, _, _, 0, 0, rfl, fun _ => by decide, fun h => by omega⟩
    · exact ⟨_, _, _, 0, _, rfl, fun _ => sv_not4 hr, fun h => by omega⟩
set_option maxRecDepth 100000 in
set_option maxHeartbeats 4000000 in
theorem netLoose_fn (w : World) (a : Option Addr) (len cap : Nat) (h : Bytes a len w) (hl : len ≤ 9223372036854775807) (hg : Et w) :
    Calls Tryd.prog 4 #[.slice a len cap] w fun e w' => e = .returned (.bool true) ∧ Below w.heap.size w w' := by
  have H := Lib.hid h
  have HG : Hid (NEt w) := hg
  clear h hg
  by_cases hbig : (1048576 : Int) < (len : Int)
  · go_enter Tryd.func4, Tryd.ntmps4
    go_wp2_with fail
    go_ret
    exact ⟨rfl, Below.refl _ _⟩
  go_enter Tryd.func4, Tryd.ntmps4
  go_wp2_with fail
  refine (drawNS_any a len cap _ H.out (by omega)).mono ?_
  rintro e w1 ⟨⟨n, la, lk, fa, fk, wa, wk, rfl, hat, l1, l2, l3⟩, hb⟩
  obtain ⟨W3, hW3⟩ : ∃ W, W = w1.alloc (.cells #[.int .i64 n.nodes, .slice la n.ln lk, .slice fa n.fn fk, .slice wa n.wn wk] 27) := ⟨_, rfl⟩
  obtain ⟨s3, hs3⟩ : ∃ s, s = w1.heap.size := ⟨_, rfl⟩
  have HT : Hid (NlS s3 n la lk fa fk wa wk w W3) := by
    show NlS _ _ _ _ _ _ _ _ _ _
    rw [hW3, hs3]
    have hb3 := hb.trans ((nbel_alloc w1 (.cells #[.int .i64 n.nodes, .slice la n.ln lk, .slice fa n.fn fk, .slice wa n.wn wk] 27)).mono hb.size)
    exact ⟨rowN_alloc w1 _ _, hat.below (nbel_alloc _ _), hb3, HG.out.below hb3⟩
  have HW3 := Lib.hid hW3
  have HS3 := Lib.hid hs3
  have HSM : Hid (NtSmall n) := ⟨by omega, by omega, by omega⟩
  clear hb hat hW3 hs3 l1 l2 l3 H hbig hl HG
  go_wp2_with fail
  rw [← HW3.out, ← HS3.out]
  clear HW3 HS3
  obtain ⟨⟨o0, o1, o2, o3⟩, _⟩ := rowN4 HT.out.row
  go_wp2_with fail
  clear o0 o1 o2 o3
  refine (specNet_any n la lk fa fk wa wk _ HT.out.at_ HSM.out).mono ?_
  rintro e w4 ⟨hE, hb⟩
  replace HT := Lib.hid (HT.out.below hb)
  clear hb
  obtain ⟨b, rfl, hR⟩ := hE
  cases b with
  | false =>
    go_wp2_with fail
    go_ret
    exact ⟨rfl, HT.out.bel⟩
  | true =>
  have HRT := Lib.hid (hR.1 rfl)
  clear hR
  obtain ⟨⟨o0, o1, o2, o3⟩, _⟩ := rowN4 HT.out.row
  go_wp2_with fail
  clear o0 o1 o2 o3
  refine (implLoose_any n la lk fa fk wa wk _ HT.out.at_ HSM.out).mono ?_
  rintro e w5 ⟨⟨v, rfl, hv⟩, hb⟩
  have hown : w5.ownsRow w4.heap.size 2 1 v (Nt.loose n).length (isVs (Nt.loose n)) := by
    rcases hv with ⟨_, k⟩ | ⟨k, _⟩
    · exact k
    · exact absurd HRT.out k
  obtain ⟨xa, xc, rfl, hxa⟩ := ls_at hown
  have HX := Lib.hid hxa
  replace HT := Lib.hid (HT.out.below hb)
  clear hb hown hv hxa
  obtain ⟨⟨o0, o1, o2, o3⟩, _⟩ := rowN4 HT.out.row
  go_wp2_with fail
  clear o0 o1 o2 o3
  refine (implNetSolve_any n la lk fa fk wa wk _ HT.out.at_ HSM.out HT.out.et).mono ?_
  rintro e w6 ⟨hE, hb⟩
  obtain ⟨ra, rm, rc, rat, rcode, rfl, k1, k2⟩ := nl_told HRT.out hE
  replace HT := Lib.hid (HT.out.below hb)
  replace HX := Lib.hid (HX.out.below hb)
  clear hb hE
  obtain ⟨W7, hW7⟩ : ∃ W, W = w6.alloc (.cells #[.slice ra rm rc, .int .i64 rat, .int .i64 rcode] 31) := ⟨_, rfl⟩
  obtain ⟨s5, hs5⟩ : ∃ s, s = w6.heap.size := ⟨_, rfl⟩
  have hb7 : Below w6.heap.size w6 W7 := by rw [hW7]; exact nbel_alloc _ _
  have HO : Hid (W7.rowIs s5 31 3 (rowN (noL ra rm rc rat rcode))) := by show World.rowIs _ _ _ _ _; rw [hW7, hs5]; exact rowN_alloc w6 _ _
  replace HT := Lib.hid (HT.out.below hb7)
  replace HX := Lib.hid (HX.out.below hb7)
  have HW7 := Lib.hid hW7
  have HS5 := Lib.hid hs5
  obtain ⟨⟨o0, o1, o2, o3⟩, _⟩ := rowN4 HT.out.row
  rw [hW7] at o0 o1 o2 o3
  clear hW7 hs5 hb7
  go_wp2_with fail
  rw [← HW7.out, ← HS5.out]
  clear HW7 HS5 o0 o1 o2 o3
  refine (specLoose_go n la lk fa fk wa wk _ HT.out.at_ HSM.out HRT.out).mono ?_
  rintro e w8 ⟨⟨v, rfl, hown⟩, hb⟩
  obtain ⟨ya, yc, rfl, hya⟩ := ls_at hown
  have HYY := Lib.hid hya
  replace HT := Lib.hid (HT.out.below hb)
  replace HX := Lib.hid (HX.out.below hb)
  replace HO := Lib.hid (nrow_below HO.out hb)
  clear hb hown hya
  have hlen : (Nt.loose n).length ≤ 1048576 := by
    have h1 := Nt.looseTo_len n (Nt.nn n)
    have h2 := HRT.out.nn
    have h3 : (Nt.loose n).length ≤ Nt.nn n := h1
    omega
  go_wp2_with fail
  refine (nsame_same xa ya _ xc yc (lsF n) _ HX.out HYY.out hlen).mono ?_
  rintro e w9 ⟨rfl, hb⟩
  replace HT := Lib.hid (HT.out.below hb)
  replace HX := Lib.hid (HX.out.below hb)
  replace HO := Lib.hid (nrow_below HO.out hb)
  clear hb HYY
  obtain ⟨L, hL⟩ : ∃ L, L = (Nt.loose n).length := ⟨_, rfl⟩
  rw [← hL] at HX k1 k2 hlen ⊢
  clear hL
  obtain ⟨⟨p0, p1, p2⟩, _⟩ := rowN3 HO.out
  by_cases h0 : L = 0
  · have h0z : (L : Int) = 0 := by omega
    have k3 := k1 h0
    clear k1 k2
    have hne : (rcode != 4) = true := by simpa using k3
    go_wp2_with fail
    go_ret
    exact ⟨by simp, HT.out.bel⟩
  · have h0z : ¬ (L : Int) = 0 := by omega
    obtain ⟨k3, k4⟩ := k2 (by omega)
    subst k3
    obtain ⟨b, rfl, hc⟩ := HX.out.at1 (i := 0) (by omega)
    rw [← k4] at hc
    have hL0 : (0 : Int) < (L : Int) := by omega
    clear k1 k2 HX
    go_wp2_with fail
    go_quiet (fail)
    go_wp2_with fail
    go_ret
    exact ⟨by simp, ⟨HT.out.bel.os, HT.out.bel.tape, HT.out.bel.output, HT.out.bel.size, HT.out.bel.block⟩⟩
end Go.Proofs.YteeieoggmoobiaaDoor
