/-
  The law FnExactWorkRight.
-/
import Derived.Test.YtganlipebndeoaaJbWt
import Derived.Test.YtganlipebndeoaaJbLawR
namespace Go.Proofs.Ytganlipebndeoaa
open Go.RowKit Go.Deep

theorem Jb.wok_same {m n : Nat} {gs hs : Nat → Nat} {bs : Nat → Je} {crew : Int} {s : Nat → Int} : Jb.WOk m (ownJ gs hs bs) crew n s ↔ Jb.WOk m bs crew n s := by
  have sm : ∀ i, (ownJ gs hs bs i).sameJ (bs i) := fun _ => ⟨rfl, rfl, rfl, rfl, rfl, rfl⟩
  have e1 : Jb.RosOk m (ownJ gs hs bs) n s ↔ Jb.RosOk m bs n s := ⟨fun h => ⟨ownJ_right.1 h.1, h.2⟩, fun h => ⟨ownJ_right.2 h.1, h.2⟩⟩
  have e2 : ∀ i, Jb.rdy (ownJ gs hs bs) s (ownJ gs hs bs i) = Jb.rdy bs s (bs i) := fun i => Jb.rdyTo_same sm (sm i) _
  have e3 : ∀ i, Jb.Fits (ownJ gs hs bs) s i (ownJ gs hs bs i) (s i) crew ↔ Jb.Fits bs s i (bs i) (s i) crew := fun i => by
    unfold Jb.Fits
    constructor
    · intro h
      exact ⟨fun d h1 h2 => by have := h.1 d h1 h2; rw [Jb.ppl_same sm] at this; exact this, fun k hk => h.2 k hk⟩
    · intro h
      exact ⟨fun d h1 h2 => by rw [Jb.ppl_same sm]; exact h.1 d h1 h2, fun k hk => h.2 k hk⟩
  unfold Jb.WOk Jb.PlanP
  constructor
  · intro h
    exact ⟨e1.1 h.1, fun i hi => ⟨by rw [← e2 i]; exact (h.2 i hi).1, (e3 i).1 (h.2 i hi).2⟩⟩
  · intro h
    exact ⟨e1.2 h.1, fun i hi => ⟨by rw [e2 i]; exact (h.2 i hi).1, (e3 i).2 (h.2 i hi).2⟩⟩
set_option maxRecDepth 100000 in
set_option maxHeartbeats 8000000 in
theorem workRight_law (w : World) (a : Option Addr) (m k : Nat) (bs : Nat → Je) (h1 : JbsIn a m bs w) (hm1 : m ≤ 9223372036854775807) (crew : Int) (c : Option Addr) (n ck : Nat) (f : Nat → Int) (h2 : IsIn c n f w) (hn1 : n ≤ 9223372036854775807) :
    Calls Try.prog 4 #[.slice a m k, .int .i64 crew, .slice c n ck] w fun e w' => e = .returned (.bool true) ∧ Below w.heap.size w w' := by
  by_cases hn : n ≤ 1048576
  case neg =>
    have hnz : (1048576 : Int) < (n : Int) := by omega
    have hnz2 : (n : Int) ≤ 9223372036854775807 := by omega
    clear h1 h2
    go_enter Try.func4, Try.ntmps4
    go_wp2_with fail
    go_ret
    exact ⟨rfl, Below.refl _ _⟩
  have H1 := Lib.hid h1
  have HM1 := Lib.hid hm1
  have H2 := Lib.hid h2
  obtain ⟨q, hq⟩ : ∃ q, q = dB (Jb.WOk m bs crew n f) := ⟨_, rfl⟩
  have SP : Hid (∀ lo hi g gs hs x W, JxM lo hi g m gs hs bs W → JSm m bs → IsBlk 2 x n f W → Calls Try.prog 11 #[.slice (some ⟨g, 0, none⟩) m m, .int .i64 crew, .slice (some ⟨x, 0, none⟩) n n] W fun e w' => e = .returned (.bool q) ∧ Below W.heap.size W w') := fun lo hi g gs hs x W h hs2 hx => by
    rw [hq, ← dB_congr (Jb.wok_same (gs := gs) (hs := hs))]; exact specRight_any _ m m _ crew _ n n f _ h.at_ hs2 hx.at_ hn
  have IM : Hid (∀ lo hi g gs hs x W, JxM lo hi g m gs hs bs W → JSm m bs → IsBlk 2 x n f W → Calls Try.prog 13 #[.slice (some ⟨g, 0, none⟩) m m, .int .i64 crew, .slice (some ⟨x, 0, none⟩) n n] W fun e w' => e = .returned (.bool q) ∧ Below W.heap.size W w') := fun lo hi g gs hs x W h hs2 hx => by
    rw [hq, ← dB_congr (Jb.wok_same (gs := gs) (hs := hs))]; exact implRight_any _ m m _ crew _ n n f _ h.at_ hs2 hx.at_ hn
  clear h1 hm1 h2 hq hn1
  have HB : Hid (Below w.heap.size w w) := Below.refl _ _
  have hnz : ¬ (1048576 : Int) < (n : Int) := by omega
  go_enter Try.func4, Try.ntmps4
  go_wp2_with fail
  refine (szJobS_any a m k bs _ H1.out HM1.out).mono ?_
  rintro e w1 ⟨⟨z, rfl, hz⟩, hb⟩
  replace HB : Hid (Below w.heap.size w w1) := HB.out.trans (hb.mono HB.out.size)
  clear hb
  rcases hz with hz | ⟨hz, hsum⟩
  · go_wp2_with fail
    go_ret
    exact ⟨rfl, HB.out⟩
  have NM : Hid (m ≤ 1048576) := by show m ≤ _; omega
  have NN := Lib.hid (jsm_of hsum)
  clear hsum
  go_wp2_with fail
  refine (toJobS_any a m k bs _ (H1.out.below HB.out) NM.out NN.out).mono ?_
  rintro e w2 ⟨⟨gs, hs, rfl, hk⟩, hb⟩
  replace HB : Hid (Below w.heap.size w w2) := HB.out.trans (hb.mono HB.out.size)
  have HK := Lib.hid hk
  clear hb
  clear hk
  go_wp2_with fail
  refine (ntoInt64S_any c n ck f _ (H2.out.below HB.out) hn).mono ?_
  rintro e w3 ⟨⟨rfl, hx⟩, hb⟩
  replace HB : Hid (Below w.heap.size w w3) := HB.out.trans (hb.mono HB.out.size)
  replace HK := Lib.hid (HK.out.below hb)
  have HX := Lib.hid hx
  clear hb
  clear hx
  go_wp2_with fail
  refine (SP.out _ _ _ _ _ _ _ HK.out NN.out HX.out).mono ?_
  rintro e w4 ⟨rfl, hb⟩
  replace HB : Hid (Below w.heap.size w w4) := HB.out.trans (hb.mono HB.out.size)
  clear HK
  clear HX
  clear hb
  go_wp2_with fail
  refine (toJobS_any a m k bs _ (H1.out.below HB.out) NM.out NN.out).mono ?_
  rintro e w5 ⟨⟨gs1, hs1, rfl, hk⟩, hb⟩
  replace HB : Hid (Below w.heap.size w w5) := HB.out.trans (hb.mono HB.out.size)
  have HK := Lib.hid hk
  clear hb
  clear hk
  go_wp2_with fail
  refine (ntoInt64S_any c n ck f _ (H2.out.below HB.out) hn).mono ?_
  rintro e w6 ⟨⟨rfl, hx⟩, hb⟩
  replace HB : Hid (Below w.heap.size w w6) := HB.out.trans (hb.mono HB.out.size)
  replace HK := Lib.hid (HK.out.below hb)
  have HX := Lib.hid hx
  clear hb
  clear hx
  go_wp2_with fail
  refine (IM.out _ _ _ _ _ _ _ HK.out NN.out HX.out).mono ?_
  rintro e w7 ⟨rfl, hb⟩
  replace HB : Hid (Below w.heap.size w w7) := HB.out.trans (hb.mono HB.out.size)
  replace HK := Lib.hid (HK.out.below hb)
  replace HX := Lib.hid (HX.out.below hb)
  clear hb
  go_wp2_with fail
  refine (toJobS_any a m k bs _ (H1.out.below HB.out) NM.out NN.out).mono ?_
  rintro e w9 ⟨⟨gs2, hs2, rfl, hk⟩, hb⟩
  replace HB : Hid (Below w.heap.size w w9) := HB.out.trans (hb.mono HB.out.size)
  replace HK := Lib.hid (HK.out.below hb)
  replace HX := Lib.hid (HX.out.below hb)
  have HK2 := Lib.hid hk
  clear hb
  clear hk
  go_wp2_with fail
  refine (jeq_law _ _ m m m gs1 hs1 gs2 hs2 bs _ HK.out HK2.out NM.out NN.out).mono ?_
  rintro e wa ⟨rfl, hb⟩
  replace HB : Hid (Below w.heap.size w wa) := HB.out.trans (hb.mono HB.out.size)
  clear HK2
  replace HK := Lib.hid (HK.out.below hb)
  replace HX := Lib.hid (HX.out.below hb)
  clear hb
  go_wp2_with fail
  refine (ntoInt64S_any c n ck f _ (H2.out.below HB.out) hn).mono ?_
  rintro e wb ⟨⟨rfl, hx⟩, hb⟩
  replace HB : Hid (Below w.heap.size w wb) := HB.out.trans (hb.mono HB.out.size)
  replace HK := Lib.hid (HK.out.below hb)
  replace HX := Lib.hid (HX.out.below hb)
  have HX2 := Lib.hid hx
  clear hb
  clear hx
  go_wp2_with fail
  refine (neqInt64S_same _ _ n n n f _ HX.out.at_ HX2.out.at_ hn).mono ?_
  rintro e wc ⟨rfl, hb⟩
  replace HB : Hid (Below w.heap.size w wc) := HB.out.trans (hb.mono HB.out.size)
  clear HX2
  replace HK := Lib.hid (HK.out.below hb)
  replace HX := Lib.hid (HX.out.below hb)
  clear hb
  go_wp2_with fail
  go_ret
  exact ⟨rfl, HB.out⟩
end Go.Proofs.Ytganlipebndeoaa
