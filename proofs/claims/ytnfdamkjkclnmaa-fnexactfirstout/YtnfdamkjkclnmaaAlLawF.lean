/-
  The law FnExactFirstOut.
-/
import Derived.Test.YtnfdamkjkclnmaaAlEx1
import Derived.Test.YtnfdamkjkclnmaaAlP2
import Derived.Test.YtnfdamkjkclnmaaAlQ
import Derived.Test.YtnfdamkjkclnmaaMnEx2
import Derived.Test.YtnfdamkjkclnmaaCyLi
namespace Go.Proofs.Ytnfdamkjkclnmaa
open Go.RowKit Go.Deep

theorem tss_at {g n : Nat} {LN : Nat → Nat} {L : Nat → Nat → Int} {w : World} (h : TSS g n n LN L w) : LsAt (some ⟨g, 0, none⟩) n LN L w := by
  obtain ⟨F, k, h1, h2, _⟩ := h
  refine Or.inr ⟨g, rfl, fun i hi => ?_⟩
  obtain ⟨e, hb, _⟩ := h2 i hi
  exact ⟨_, _, by rw [h1.cell (i := i) hi, e], hb.at_⟩
set_option maxRecDepth 100000 in
set_option maxHeartbeats 4000000 in
theorem firstOut_law (w : World) (la : Option Addr) (n cap : Nat) (Q : Nat → Int) (h : IsIn la (n * 6) Q w) (hl : n ≤ 9223372036854775807) (va : Option Addr) (m vk : Nat) (LN : Nat → Nat) (L : Nat → Nat → Int) (h2 : LsIn va m LN L w) (hl2 : m ≤ 9223372036854775807) (hy2 : ∀ i, i < m → LN i ≤ 9223372036854775807) :
    Calls Try.prog 5 #[.slice la n cap, .slice va m vk] w fun e w' => e = .returned (.bool true) ∧ Below w.heap.size w w' := by
  have H := Lib.hid h
  have H2 := Lib.hid h2
  have HY2 := Lib.hid hy2
  clear h h2 hy2
  by_cases hbig : 1048576 < n
  · go_enter Try.func5, Try.ntmps5
    go_wp2_with fail
    refine (nszAlarm_over la n cap 1048576 _ hbig (by omega) hl).mono ?_
    rintro e w1 ⟨rfl, rfl⟩
    go_wp2_with fail
    go_ret
    exact ⟨rfl, Below.refl _ _⟩
  have hn : n ≤ 1048576 := by omega
  have hz : ¬ ((1048576 - n : Nat) : Int) < 0 := by omega
  have HN := Lib.hid hn
  go_enter Try.func5, Try.ntmps5
  go_wp2_with fail
  refine (nszAlarm_in la n cap 1048576 _ hn (by omega)).mono ?_
  rintro e w1 ⟨rfl, hw1⟩
  subst hw1
  go_wp2_with fail
  refine (mszSS_any va m vk LN L (1048576 - n) _ H2.out hl2 (by omega) HY2.out).mono ?_
  rintro e w2 ⟨hE, hw2⟩
  subst hw2
  obtain ⟨z, rfl, hzz⟩ : ∃ z : Int, e = .returned (.int .i64 z) ∧ (z < 0 ∨ (0 ≤ z ∧ m ≤ 1048576 ∧ ∀ i, i < m → LN i ≤ 1048576)) := by
    obtain ⟨z, e, q⟩ := hE
    refine ⟨z, e, ?_⟩
    rcases q with q | ⟨q1, q2⟩
    · exact Or.inl q
    · refine Or.inr ⟨by omega, by omega, fun i hi => ?_⟩
      have := Mn.le_tot LN hi
      omega
  clear hE hz
  rcases hzz with hz | ⟨hz0, hm, hls⟩
  · go_wp2_with fail
    go_ret
    exact ⟨rfl, Below.refl _ _⟩
  have HM := Lib.hid hm
  have HLS := Lib.hid hls
  clear hls hbig
  go_wp2_with fail
  refine (ntoAlarmS_any la n cap Q _ H.out HN.out).mono ?_
  rintro e w3 ⟨⟨rfl, hk⟩, hb⟩
  have B3 := Lib.hid hb
  have K3 := Lib.hid hk
  clear hb hk
  go_wp2_with fail
  refine (mtoSS_any va m vk LN L _ (H2.out.below B3.out) HM.out HLS.out).mono ?_
  rintro e w4 ⟨⟨rfl, ht⟩, hb⟩
  have B4 : Hid (Below w2.heap.size w2 w4) := B3.out.trans (hb.mono B3.out.size)
  have K4 := Lib.hid (K3.out.below hb)
  have T4 := Lib.hid ht
  clear hb ht B3 K3
  go_wp2_with fail
  refine (specFirst_any _ n n Q _ m m LN L _ K4.out.at_ HN.out (tss_at T4.out) HM.out HLS.out).mono ?_
  rintro e w5 ⟨⟨r, rfl, hr⟩, hb⟩
  have HR := Lib.hid hr
  have B5 : Hid (Below w2.heap.size w2 w5) := B4.out.trans (hb.mono B4.out.size)
  clear hb hr B4 K4 T4
  go_wp2_with fail
  refine (ntoAlarmS_any la n cap Q _ (H.out.below B5.out) HN.out).mono ?_
  rintro e w6 ⟨⟨rfl, hk⟩, hb⟩
  have B6 : Hid (Below w2.heap.size w2 w6) := B5.out.trans (hb.mono B5.out.size)
  have K6 := Lib.hid hk
  clear hb hk B5
  go_wp2_with fail
  refine (mtoSS_any va m vk LN L _ (H2.out.below B6.out) HM.out HLS.out).mono ?_
  rintro e w7 ⟨⟨rfl, ht⟩, hb⟩
  have B7 : Hid (Below w2.heap.size w2 w7) := B6.out.trans (hb.mono B6.out.size)
  have K7 := Lib.hid (K6.out.below hb)
  have T7 := Lib.hid ht
  clear hb ht B6 K6
  go_wp2_with fail
  refine (implFirst_any _ n n Q _ m m LN L _ K7.out HN.out (tss_at T7.out) HM.out HLS.out).mono ?_
  rintro e w8 ⟨⟨r', rfl, hr'⟩, hb⟩
  obtain rfl : r' = r := hr'.one HR.out
  have B8 : Hid (Below w2.heap.size w2 w8) := B7.out.trans (hb.mono B7.out.size)
  have K8 := Lib.hid (K7.out.below hb)
  have T8 := Lib.hid (T7.out.below hb)
  have hrr : (r' != r') = false := by simp
  clear hb hr' HR B7 K7 T7
  go_wp2_with fail
  refine (ntoAlarmS_any la n cap Q _ (H.out.below B8.out) HN.out).mono ?_
  rintro e w9 ⟨⟨rfl, hk⟩, hb⟩
  have B9 : Hid (Below w2.heap.size w2 w9) := B8.out.trans (hb.mono B8.out.size)
  have K9 := Lib.hid (K8.out.below hb)
  have T9 := Lib.hid (T8.out.below hb)
  have Q9 := Lib.hid hk
  clear hb hk B8 K8 T8
  go_wp2_with fail
  refine (neqAlarmS_same _ _ n n n Q _ K9.out.at_ Q9.out.at_ HN.out).mono ?_
  rintro e wa ⟨rfl, hb⟩
  have Ba : Hid (Below w2.heap.size w2 wa) := B9.out.trans (hb.mono B9.out.size)
  have Ta := Lib.hid (T9.out.below hb)
  clear hb B9 K9 T9 Q9
  go_wp2_with fail
  refine (mtoSS_any va m vk LN L _ (H2.out.below Ba.out) HM.out HLS.out).mono ?_
  rintro e wb ⟨⟨rfl, ht⟩, hb⟩
  have Bb : Hid (Below w2.heap.size w2 wb) := Ba.out.trans (hb.mono Ba.out.size)
  have Tb := Lib.hid (Ta.out.below hb)
  have Qb := Lib.hid ht
  clear hb ht Ba Ta
  go_wp2_with fail
  refine (meqSS_same _ _ m m m LN L _ (tss_at Tb.out) (tss_at Qb.out) HM.out HLS.out).mono ?_
  rintro e wc ⟨rfl, hb⟩
  have Bc : Hid (Below w2.heap.size w2 wc) := Bb.out.trans (hb.mono Bb.out.size)
  clear hb Bb Tb Qb
  go_wp2_with fail
  go_ret
  exact ⟨rfl, Bc.out⟩
end Go.Proofs.Ytnfdamkjkclnmaa
