/-
  The law FnExactHistoryPack.
-/
import Derived.Test.YtlocpliljkgfnaaHsFa
import Derived.Test.YtlocpliljkgfnaaHsIn
import Derived.Test.YtlocpliljkgfnaaHsPk
import Derived.Test.YtlocpliljkgfnaaHsS2
namespace Go.Proofs.Ytlocpliljkgfnaa
open Go.RowKit Go.Deep

set_option maxRecDepth 100000 in
set_option maxHeartbeats 16000000 in
theorem historyPack_law (w : World) (ia : Option Addr) (iN iK : Nat) (I : Nat → Int) (hi0 : IsIn ia iN I w) (hl0 : iN ≤ 9223372036854775807) (z : Int) :
    Calls Try.prog 4 #[.slice ia iN iK, .int .i64 z] w fun e w' => e = .returned (.bool true) ∧ Below w.heap.size w w' := by
  have HI0 := Lib.hid hi0
  obtain ⟨W, hW⟩ : ∃ W, W = w := ⟨_, rfl⟩
  have hOLD : Below w.heap.size w W := by rw [hW]; exact Below.refl _ _
  have OLD := Lib.hid hOLD
  have HW := Lib.hid hW
  clear hW hOLD hi0 
  by_cases big0 : (1048576 : Int) < (iN : Int)
  · go_enter Try.func4, Try.ntmps4
    go_wp2_with fail
    go_ret
    exact ⟨rfl, Below.refl _ _⟩
  have HS0 : Hid (iN ≤ 1048576) := by show _ ≤ _; omega
  go_enter Try.func4, Try.ntmps4
  replace OLD : Hid (Below w.heap.size w w) := Below.refl _ _
  clear HW W
  obtain ⟨xx, hX⟩ : ∃ xx, xx = (Hs.keep I iN z).length := ⟨_, rfl⟩
  have HX := Lib.hid hX
  obtain ⟨XF, hF⟩ : ∃ XF, XF = Ln.fl (Hs.keep I iN z) := ⟨_, rfl⟩
  have HF := Lib.hid hF
  have HSX : Hid (xx ≤ 1048576) := by show xx ≤ 1048576; rw [hX]; exact (Nat.le_trans (Hs.keep_len I iN z) (by decide))
  clear hX hF
  have QQ : Hid (w.heap.size ≤ w.heap.size) := OLD.out.size
  go_wp2_with fail
  refine (ints_conv ia iN iK I _ (HI0.out.below OLD.out) HS0.out).mono ?_
  rintro e w1 ⟨⟨git1, rfl, hlo, hk⟩, hb⟩
  have KT := Lib.hid hk
  have SZ0 := Lib.hid hb.size
  replace OLD := Lib.hid (OLD.out.trans (hb.mono OLD.out.size))
  clear hb
  clear hk hlo
  go_wp2_with fail
  refine (specPack_any _ iN _ I z _ KT.out.at_ HS0.out).mono ?_
  rintro e w2 ⟨hE, hb⟩
  rw [← HX.out, ← HF.out] at hE
  obtain ⟨a5, k5, rfl, hO⟩ := hE
  have FS := Lib.hid (fact_cyo hO SZ0.out (Nat.le_trans SZ0.out hb.size))
  clear hO KT
  clear SZ0
  replace OLD := Lib.hid (OLD.out.trans (hb.mono OLD.out.size))
  clear hb
  go_wp2_with fail
  refine (ints_conv ia iN iK I _ (HI0.out.below OLD.out) HS0.out).mono ?_
  rintro e w3 ⟨⟨gic0, rfl, hlo, hk⟩, hb⟩
  have X0 := Lib.hid (fact_blk hk hlo)
  have RX0 : Hid (w2.heap.size ≤ gic0 ∧ gic0 < w3.heap.size) := ⟨hlo, hk.lt⟩
  clear hk hlo
  replace OLD := Lib.hid (OLD.out.trans (hb.mono OLD.out.size))
  replace FS := Lib.hid (FS.out.below hb)
  clear hb
  have QX0 := Lib.hid X0.out.le.1
  go_wp2_with fail
  refine (implPack_any _ iN _ I z _ (X0.out.p).at_ HS0.out).mono ?_
  rintro e w4 ⟨hE, hb⟩
  rw [← HX.out, ← HF.out] at hE
  obtain ⟨a6, k6, rfl, hO⟩ := hE
  have GA := Lib.hid (fact_cyo hO (Nat.le_refl _) hb.size)
  clear hO
  replace OLD := Lib.hid (OLD.out.trans (hb.mono OLD.out.size))
  replace FS := Lib.hid (FS.out.below hb)
  replace X0 := Lib.hid (X0.out.below hb)
  clear hb
  go_wp2_with fail
  refine (neqPointS_same _ _ xx _ _ XF _ GA.out.p.at_ FS.out.p.at_ HSX.out).mono ?_
  rintro e w5 ⟨rfl, hb⟩
  replace OLD := Lib.hid (OLD.out.trans (hb.mono OLD.out.size))
  replace FS := Lib.hid (FS.out.below hb)
  replace X0 := Lib.hid (X0.out.below hb)
  replace GA := Lib.hid (GA.out.below hb)
  clear hb
  go_wp2_with fail
  refine (ints_conv ia iN iK I _ (HI0.out.below OLD.out) HS0.out).mono ?_
  rintro e w6 ⟨⟨gie0, rfl, hlo, hk⟩, hb⟩
  have KT := Lib.hid hk
  clear hk hlo
  replace OLD := Lib.hid (OLD.out.trans (hb.mono OLD.out.size))
  replace FS := Lib.hid (FS.out.below hb)
  replace X0 := Lib.hid (X0.out.below hb)
  replace GA := Lib.hid (GA.out.below hb)
  clear hb
  go_wp2_with fail
  refine (neqInt64S_same _ _ iN _ _ I _ (X0.out.p).at_ KT.out.at_ HS0.out).mono ?_
  rintro e w7 ⟨rfl, hb⟩
  clear KT
  replace OLD := Lib.hid (OLD.out.trans (hb.mono OLD.out.size))
  replace FS := Lib.hid (FS.out.below hb)
  replace X0 := Lib.hid (X0.out.below hb)
  replace GA := Lib.hid (GA.out.below hb)
  clear hb
  go_wp2_with fail
  refine (nmarkInt64S_any gic0 iN iN 1 I _ (X0.out.p) HS0.out (by omega)).mono ?_
  rintro e w8 ⟨rfl, _, ho⟩
  have hRG : Rng w2.heap.size w3.heap.size w7 w8 := Rng.of_only ho RX0.out
  clear ho
  have q0 := OLD.out.size
  have q1 := FS.out.le
  have q2 := X0.out.le
  have q3 := GA.out.le
  have qq := QQ.out
  have rQX0 := QX0.out
  replace OLD := Lib.hid (hRG.old OLD.out (by omega) (by omega))
  replace FS := Lib.hid (FS.out.out hRG (by omega))
  replace GA := Lib.hid (GA.out.out hRG (by omega))
  clear hRG q0 qq X0 RX0 q1 q2 q3 rQX0
  obtain ⟨K0, hK⟩ : ∃ K : Nat, K = 1 + iN := ⟨_, rfl⟩
  have hKK0 : K0 ≤ 100000000 := by have := HS0.out;  omega
  rw [← hK]
  have hK00 : ¬ (K0 : Int) < 0 := mark_pos _
  clear hK
  go_wp2_with fail
  refine (neqPointS_same _ _ xx _ _ XF _ GA.out.p.at_ FS.out.p.at_ HSX.out).mono ?_
  rintro e w9 ⟨rfl, hb⟩
  replace OLD := Lib.hid (OLD.out.trans (hb.mono OLD.out.size))
  replace FS := Lib.hid (FS.out.below hb)
  replace GA := Lib.hid (GA.out.below hb)
  clear hb
  go_wp2_with fail
  refine (markPts_any (k := 1) _ GA.out.p HSX.out (by omega)).mono ?_
  rintro e w10 ⟨rfl, hm, ho⟩
  have hRG : Rng w3.heap.size w9.heap.size w9 w10 := rng_a ho (fun y j hy e => by simp at hy; subst hy; exact (GA.out.p).lt e)
  clear ho
  have q0 := OLD.out.size
  have q1 := FS.out.le
  have q2 := GA.out.le
  have qq := QQ.out
  have rQX0 := QX0.out
  replace OLD := Lib.hid (hRG.old OLD.out (by omega) (by omega))
  replace FS := Lib.hid (FS.out.out hRG (by omega))
  replace GA := Lib.hid (fact_cyo hm (Nat.le_refl _) (Nat.le_trans q2.1 (Nat.le_trans q2.2 hRG.size)))
  clear hm hRG qq q0 q1 q2 rQX0
  obtain ⟨QN, hQ⟩ : ∃ Q : Nat, Q = 1 + xx * 2 := ⟨_, rfl⟩
  have HQ : Hid (1 + xx * 2 = QN) := hQ.symm
  rw [← hQ]
  have hQ0 : ¬ (QN : Int) < 0 := mark_pos _
  have hQQ : ((QN : Int) != (QN : Int)) = false := by simp
  clear hQ
  go_wp2_with fail
  refine (heldPts_any (k := 1) _ GA.out.p HSX.out (by omega)).mono ?_
  rintro e w11 ⟨rfl, hw⟩
  rw [HQ.out, hw]
  clear hw w11
  go_wp2_with fail
  refine (ints_conv ia iN iK I _ (HI0.out.below OLD.out) HS0.out).mono ?_
  rintro e w12 ⟨⟨git2, rfl, hlo, hk⟩, hb⟩
  have KT := Lib.hid hk
  have SZ0 := Lib.hid hb.size
  replace OLD := Lib.hid (OLD.out.trans (hb.mono OLD.out.size))
  replace FS := Lib.hid (FS.out.below hb)
  replace GA := Lib.hid (GA.out.below hb)
  clear hb
  clear hk hlo
  go_wp2_with fail
  refine (implPack_any _ iN _ I z _ KT.out.at_ HS0.out).mono ?_
  rintro e w13 ⟨hE, hb⟩
  rw [← HX.out, ← HF.out] at hE
  obtain ⟨a9, k9, rfl, hO⟩ := hE
  have GB := Lib.hid (fact_cyo hO SZ0.out (Nat.le_trans SZ0.out hb.size))
  clear hO KT
  clear SZ0
  replace OLD := Lib.hid (OLD.out.trans (hb.mono OLD.out.size))
  replace FS := Lib.hid (FS.out.below hb)
  replace GA := Lib.hid (GA.out.below hb)
  clear hb
  go_wp2_with fail
  refine (neqPointS_same _ _ xx _ _ XF _ GB.out.p.at_ FS.out.p.at_ HSX.out).mono ?_
  rintro e w14 ⟨rfl, hb⟩
  replace OLD := Lib.hid (OLD.out.trans (hb.mono OLD.out.size))
  replace FS := Lib.hid (FS.out.below hb)
  replace GA := Lib.hid (GA.out.below hb)
  replace GB := Lib.hid (GB.out.below hb)
  clear hb
  clear GB
  go_wp2_with fail
  refine (heldPts_any (k := 1) _ GA.out.p HSX.out (by omega)).mono ?_
  rintro e w15 ⟨rfl, hw⟩
  rw [HQ.out, hw]
  clear hw w15
  go_wp2_with fail
  go_ret
  exact ⟨rfl, OLD.out⟩
end Go.Proofs.Ytlocpliljkgfnaa
