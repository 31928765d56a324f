/-
  The law FnExactNoticeOpen.
-/
import Derived.Test.YtjfeipgeppegcaaNnFa
namespace Go.Proofs.Ytjfeipgeppegcaa
open Go.RowKit Go.Deep

set_option maxRecDepth 100000 in
set_option maxHeartbeats 16000000 in
theorem noticeOpen_law (w : World) (oa : Option Addr) (oN oK : Nat) (bs : Nat → Ne) (hi0 : NnsIn oa oN bs w) (hl0 : oN ≤ 9223372036854775807) :
    Calls Try.prog 5 #[.slice oa oN oK] w fun e w' => e = .returned (.bool true) ∧ Below w.heap.size w w' := by
  have HI0 := Lib.hid hi0
  obtain ⟨W, hW⟩ : ∃ W, W = w := ⟨_, rfl⟩
  have hOLD : Below w.heap.size w W := by rw [hW]; exact Below.refl _ _
  have OLD := Lib.hid hOLD
  have HW := Lib.hid hW
  clear hW hOLD hi0 
  go_enter Try.func5, Try.ntmps5
  go_wp2_with fail
  rw [← HW.out]
  clear HW
  refine (notices_sz oa oN oK bs _ (HI0.out.below OLD.out) hl0).mono ?_
  rintro e w1 ⟨⟨z, rfl, hz⟩, hb⟩
  replace OLD := Lib.hid (OLD.out.trans (hb.mono OLD.out.size))
  clear hb
  rcases hz with hz | ⟨hz, hs⟩
  · go_wp2_with fail
    go_ret
    exact ⟨rfl, OLD.out⟩
  have HS0 := Lib.hid hs
  obtain ⟨LL1, rfl⟩ : ∃ L : Nat, z = (L : Int) := ⟨z.toNat, by omega⟩
  have hLL1 : LL1 ≤ 1048576 := by omega
  have hzz1 : ¬ (LL1 : Int) < 0 := by omega
  clear hs hz
  obtain ⟨xx, hX⟩ : ∃ xx, xx = (No.opens oN bs).length := ⟨_, rfl⟩
  have HX := Lib.hid hX
  obtain ⟨XF, hF⟩ : ∃ XF, XF = nols (No.opens oN bs) := ⟨_, rfl⟩
  have HF := Lib.hid hF
  have HSX : Hid (xx ≤ 1048576) := by show xx ≤ 1048576; rw [hX]; exact (Nat.le_trans (No.opens_len oN bs) (by decide))
  clear hX hF
  have QQ : Hid (w.heap.size ≤ w1.heap.size) := OLD.out.size
  go_wp2_with fail
  refine (notices_conv oa oN oK bs _ (HI0.out.below OLD.out) HS0.out).mono ?_
  rintro e w2 ⟨⟨got1, rfl, hlo, hk⟩, hb⟩
  have KT := Lib.hid hk
  have SZ0 := Lib.hid hb.size
  replace OLD := Lib.hid (OLD.out.trans (hb.mono OLD.out.size))
  clear hb
  clear hk hlo
  go_wp2_with fail
  refine (specOpen_nn _ oN bs _ KT.out HS0.out).mono ?_
  rintro e w3 ⟨hE, hb⟩
  unfold NlEnd at hE
  rw [← HX.out, ← HF.out] at hE
  obtain ⟨a5, k5, rfl, hO⟩ := hE
  have FS := Lib.hid (fact_cyo hO SZ0.out (Nat.le_trans SZ0.out hb.size))
  clear hO KT
  clear SZ0
  replace OLD := Lib.hid (OLD.out.trans (hb.mono OLD.out.size))
  clear hb
  go_wp2_with fail
  refine (notices_conv oa oN oK bs _ (HI0.out.below OLD.out) HS0.out).mono ?_
  rintro e w4 ⟨⟨goc0, rfl, hlo, hk⟩, hb⟩
  have X0 := Lib.hid (fact_nn hk hlo)
  have RX0 : Hid (w3.heap.size ≤ goc0 ∧ goc0 < w4.heap.size) := ⟨hlo, hk.lt⟩
  clear hk hlo
  replace OLD := Lib.hid (OLD.out.trans (hb.mono OLD.out.size))
  replace FS := Lib.hid (FS.out.below hb)
  clear hb
  have QX0 := Lib.hid X0.out.le.1
  go_wp2_with fail
  refine (implOpen_nn _ oN bs _ (X0.out.p) HS0.out).mono ?_
  rintro e w5 ⟨hE, hb⟩
  unfold NlEnd at hE
  rw [← HX.out, ← HF.out] at hE
  obtain ⟨a6, k6, rfl, hO⟩ := hE
  have GA := Lib.hid (fact_cyo hO (Nat.le_refl _) hb.size)
  clear hO
  replace OLD := Lib.hid (OLD.out.trans (hb.mono OLD.out.size))
  replace FS := Lib.hid (FS.out.below hb)
  replace X0 := Lib.hid (X0.out.below hb)
  clear hb
  go_wp2_with fail
  refine (neqInt64S_same _ _ xx _ _ XF _ GA.out.p.at_ FS.out.p.at_ HSX.out).mono ?_
  rintro e w6 ⟨rfl, hb⟩
  replace OLD := Lib.hid (OLD.out.trans (hb.mono OLD.out.size))
  replace FS := Lib.hid (FS.out.below hb)
  replace X0 := Lib.hid (X0.out.below hb)
  replace GA := Lib.hid (GA.out.below hb)
  clear hb
  go_wp2_with fail
  refine (notices_conv oa oN oK bs _ (HI0.out.below OLD.out) HS0.out).mono ?_
  rintro e w7 ⟨⟨goe0, rfl, hlo, hk⟩, hb⟩
  have KT := Lib.hid hk
  clear hk hlo
  replace OLD := Lib.hid (OLD.out.trans (hb.mono OLD.out.size))
  replace FS := Lib.hid (FS.out.below hb)
  replace X0 := Lib.hid (X0.out.below hb)
  replace GA := Lib.hid (GA.out.below hb)
  clear hb
  go_wp2_with fail
  refine (notices_eq _ _ oN bs _ (X0.out.p) KT.out HS0.out).mono ?_
  rintro e w8 ⟨rfl, hb⟩
  clear KT
  replace OLD := Lib.hid (OLD.out.trans (hb.mono OLD.out.size))
  replace FS := Lib.hid (FS.out.below hb)
  replace X0 := Lib.hid (X0.out.below hb)
  replace GA := Lib.hid (GA.out.below hb)
  clear hb
  go_wp2_with fail
  refine (notices_mark goc0 oN bs _ (X0.out.p) HS0.out).mono ?_
  rintro e w9 ⟨rfl, ho⟩
  have hRG : Rng w3.heap.size w4.heap.size w8 w9 := ho.rng
  clear ho
  have q0 := OLD.out.size
  have q1 := FS.out.le
  have q2 := X0.out.le
  have q3 := GA.out.le
  have qq := QQ.out
  have rQX0 := QX0.out
  replace OLD := Lib.hid (hRG.old OLD.out (by omega) (by omega))
  replace FS := Lib.hid (FS.out.out hRG (by omega))
  replace GA := Lib.hid (GA.out.out hRG (by omega))
  clear hRG q0 qq X0 RX0 q1 q2 q3 rQX0
  obtain ⟨K0, hK⟩ : ∃ K : Nat, K = 1 + oN * 3 + cntN bs oN := ⟨_, rfl⟩
  have hKK0 : K0 ≤ 100000000 := by have := HS0.out; unfold NSm at this;  omega
  rw [← hK]
  have hK00 : ¬ (K0 : Int) < 0 := mark_pos _
  clear hK
  go_wp2_with fail
  refine (neqInt64S_same _ _ xx _ _ XF _ GA.out.p.at_ FS.out.p.at_ HSX.out).mono ?_
  rintro e w10 ⟨rfl, hb⟩
  replace OLD := Lib.hid (OLD.out.trans (hb.mono OLD.out.size))
  replace FS := Lib.hid (FS.out.below hb)
  replace GA := Lib.hid (GA.out.below hb)
  clear hb
  go_wp2_with fail
  refine (markInts_any (k := 1) _ GA.out.p HSX.out (by omega)).mono ?_
  rintro e w11 ⟨rfl, hm, ho⟩
  have hRG : Rng w4.heap.size w10.heap.size w10 w11 := rng_a ho (fun y j hy e => by simp at hy; subst hy; exact (GA.out.p).lt e)
  clear ho
  have q0 := OLD.out.size
  have q1 := FS.out.le
  have q2 := GA.out.le
  have qq := QQ.out
  have rQX0 := QX0.out
  replace OLD := Lib.hid (hRG.old OLD.out (by omega) (by omega))
  replace FS := Lib.hid (FS.out.out hRG (by omega))
  replace GA := Lib.hid (fact_cyo hm (Nat.le_refl _) (Nat.le_trans q2.1 (Nat.le_trans q2.2 hRG.size)))
  clear hm hRG qq q0 q1 q2 rQX0
  obtain ⟨QN, hQ⟩ : ∃ Q : Nat, Q = 1 + xx := ⟨_, rfl⟩
  have HQ : Hid (1 + xx = QN) := hQ.symm
  rw [← hQ]
  have hQ0 : ¬ (QN : Int) < 0 := mark_pos _
  have hQQ : ((QN : Int) != (QN : Int)) = false := by simp
  clear hQ
  go_wp2_with fail
  refine (heldInts_any (k := 1) _ GA.out.p HSX.out (by omega)).mono ?_
  rintro e w12 ⟨rfl, hw⟩
  rw [HQ.out, hw]
  clear hw w12
  go_wp2_with fail
  refine (notices_conv oa oN oK bs _ (HI0.out.below OLD.out) HS0.out).mono ?_
  rintro e w13 ⟨⟨got2, rfl, hlo, hk⟩, hb⟩
  have KT := Lib.hid hk
  have SZ0 := Lib.hid hb.size
  replace OLD := Lib.hid (OLD.out.trans (hb.mono OLD.out.size))
  replace FS := Lib.hid (FS.out.below hb)
  replace GA := Lib.hid (GA.out.below hb)
  clear hb
  clear hk hlo
  go_wp2_with fail
  refine (implOpen_nn _ oN bs _ KT.out HS0.out).mono ?_
  rintro e w14 ⟨hE, hb⟩
  unfold NlEnd at hE
  rw [← HX.out, ← HF.out] at hE
  obtain ⟨a9, k9, rfl, hO⟩ := hE
  have GB := Lib.hid (fact_cyo hO SZ0.out (Nat.le_trans SZ0.out hb.size))
  clear hO KT
  clear SZ0
  replace OLD := Lib.hid (OLD.out.trans (hb.mono OLD.out.size))
  replace FS := Lib.hid (FS.out.below hb)
  replace GA := Lib.hid (GA.out.below hb)
  clear hb
  go_wp2_with fail
  refine (neqInt64S_same _ _ xx _ _ XF _ GB.out.p.at_ FS.out.p.at_ HSX.out).mono ?_
  rintro e w15 ⟨rfl, hb⟩
  replace OLD := Lib.hid (OLD.out.trans (hb.mono OLD.out.size))
  replace FS := Lib.hid (FS.out.below hb)
  replace GA := Lib.hid (GA.out.below hb)
  replace GB := Lib.hid (GB.out.below hb)
  clear hb
  clear GB
  go_wp2_with fail
  refine (heldInts_any (k := 1) _ GA.out.p HSX.out (by omega)).mono ?_
  rintro e w16 ⟨rfl, hw⟩
  rw [HQ.out, hw]
  clear hw w16
  go_wp2_with fail
  go_ret
  exact ⟨rfl, OLD.out⟩
end Go.Proofs.Ytjfeipgeppegcaa
