/-
  The law FnExactHomesRight.
-/
import Derived.Test.YtjfeipgeppegcaaNoFa
import Derived.Test.YtjfeipgeppegcaaNoS1
namespace Go.Proofs.Ytjfeipgeppegcaa
open Go.RowKit Go.Deep

set_option maxRecDepth 100000 in
set_option maxHeartbeats 8000000 in
theorem homesRight_law (w : World) (oa : Option Addr) (oN oK : Nat) (P : Nat → No.Ho) (h1 : HosIn oa oN P w) (hl : HoLn oN P) :
    Calls Try.prog 3 #[.slice oa oN oK] w fun e w' => e = .returned (.bool true) ∧ Below w.heap.size w w' := by
  have H1 := Lib.hid h1
  have HL := Lib.hid hl
  obtain ⟨q, hq⟩ : ∃ q, q = dB (No.Right oN P) := ⟨_, rfl⟩
  have SP : Hid (∀ g W, VsBlk 46 g (oN * 2) (hoF P) W → HoSm oN P → Calls Try.prog 7 #[.slice (some ⟨g, 0, none⟩) oN oN] W fun e w' => e = .returned (.bool q) ∧ Below W.heap.size W w') := fun g W h hn => by rw [hq]; exact specHomes_any _ oN oN P W h.hos hn.1 hn.2
  have IM : Hid (∀ g W, VsBlk 46 g (oN * 2) (hoF P) W → HoSm oN P → Calls Try.prog 9 #[.slice (some ⟨g, 0, none⟩) oN oN] W fun e w' => e = .returned (.bool q) ∧ Below W.heap.size W w') := fun g W h hn => by rw [hq]; exact implHomes_any _ oN oN P W h.hos hn.1 (Nat.le_refl _) hn.2
  clear h1 hl hq
  have HB : Hid (Below w.heap.size w w) := Below.refl _ _
  go_enter Try.func3, Try.ntmps3
  go_wp2_with fail
  refine (homes_sz oa oN oK P _ H1.out HL.out).mono ?_
  rintro e w1 ⟨⟨z, rfl, hz⟩, hb⟩
  replace HB : Hid (Below w.heap.size w w1) := HB.out.trans (hb.mono HB.out.size)
  clear hb
  rcases hz with hz | ⟨hz, hs⟩
  · go_wp2_with fail
    go_ret
    exact ⟨rfl, HB.out⟩
  have hz0 : ¬ z < 0 := by omega
  have HS := Lib.hid hs
  clear hs hz
  go_wp2_with fail
  refine (homes_conv oa oN oK P _ (H1.out.below HB.out) HS.out).mono ?_
  rintro e w2 ⟨⟨g, rfl, hlo, hk⟩, hb⟩
  replace HB : Hid (Below w.heap.size w w2) := HB.out.trans (hb.mono HB.out.size)
  have HK := Lib.hid hk
  clear hb hk hlo
  go_wp2_with fail
  refine (SP.out _ _ HK.out HS.out).mono ?_
  rintro e w3 ⟨rfl, hb⟩
  replace HB : Hid (Below w.heap.size w w3) := HB.out.trans (hb.mono HB.out.size)
  clear hb HK
  go_wp2_with fail
  refine (homes_conv oa oN oK P _ (H1.out.below HB.out) HS.out).mono ?_
  rintro e w4 ⟨⟨g1, rfl, hlo, hk⟩, hb⟩
  replace HB : Hid (Below w.heap.size w w4) := HB.out.trans (hb.mono HB.out.size)
  have HK := Lib.hid hk
  clear hb hk hlo
  go_wp2_with fail
  refine (IM.out _ _ HK.out HS.out).mono ?_
  rintro e w5 ⟨rfl, hb⟩
  replace HB : Hid (Below w.heap.size w w5) := HB.out.trans (hb.mono HB.out.size)
  replace HK := Lib.hid (HK.out.below hb)
  clear hb
  go_wp2_with fail
  refine (homes_conv oa oN oK P _ (H1.out.below HB.out) HS.out).mono ?_
  rintro e w6 ⟨⟨g2, rfl, hlo, hk⟩, hb⟩
  replace HB : Hid (Below w.heap.size w w6) := HB.out.trans (hb.mono HB.out.size)
  replace HK := Lib.hid (HK.out.below hb)
  have HK2 := Lib.hid hk
  clear hb hk hlo
  go_wp2_with fail
  refine (neqHomeS_same _ _ oN _ _ P _ HK.out.hos HK2.out.hos HS.out.1).mono ?_
  rintro e w7 ⟨rfl, hb⟩
  replace HB : Hid (Below w.heap.size w w7) := HB.out.trans (hb.mono HB.out.size)
  clear hb HK HK2
  go_wp2_with fail
  go_ret
  exact ⟨rfl, HB.out⟩
end Go.Proofs.Ytjfeipgeppegcaa
