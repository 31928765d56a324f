/-
  The law FnExactPointsRead.
-/
import Derived.Test.YtlocpliljkgfnaaDoorHsFa
import Derived.Test.YtlocpliljkgfnaaDoorHsLo
import Derived.Test.YtlocpliljkgfnaaDoorHsRs
import Derived.Test.YtlocpliljkgfnaaDoorEt
namespace Go.Proofs.YtlocpliljkgfnaaDoor
open Go.RowKit Go.Deep

set_option maxRecDepth 100000 in
set_option maxHeartbeats 16000000 in
theorem pointsRead_law (w : World) (s : ByteArray) (hzs : s.size ≤ 9223372036854775807) (hg : Et w) :
    Calls Tryd.prog 3 #[.string s] w fun e w' => e = .returned (.bool true) ∧ Below w.heap.size w w' := by
  have HG := Lib.hid hg
  obtain ⟨W, hW⟩ : ∃ W, W = w := ⟨_, rfl⟩
  have hOLD : Below w.heap.size w W := by rw [hW]; exact Below.refl _ _
  have OLD := Lib.hid hOLD
  have HW := Lib.hid hW
  clear hW hOLD   hg
  by_cases bigs : (1048576 : Int) < (s.size : Int)
  · go_enter Tryd.func3, Tryd.ntmps3
    go_wp2_with fail
    go_ret
    exact ⟨rfl, Below.refl _ _⟩
  go_enter Tryd.func3, Tryd.ntmps3
  replace OLD : Hid (Below w.heap.size w w) := Below.refl _ _
  clear HW W
  obtain ⟨xx, hX⟩ : ∃ xx, xx = Hs.rdL s.data.toList := ⟨_, rfl⟩
  have HX := Lib.hid hX
  obtain ⟨XF, hF⟩ : ∃ XF, XF = Hs.rdC s.data.toList := ⟨_, rfl⟩
  have HF := Lib.hid hF
  have HSX : Hid (xx.length ≤ 1048576) := by show xx.length ≤ 1048576; rw [hX]; exact (Nat.le_trans (Hs.rdL_len _) (by decide))
  clear hX hF
  have QQ : Hid (w.heap.size ≤ w.heap.size) := OLD.out.size
  have KT := trivial
  have SZ0 := Lib.hid (Nat.le_refl w.heap.size)
  go_wp2_with fail
  refine (specRead_any s _ hzs).mono ?_
  rintro e w1 ⟨hE, hb⟩
  obtain ⟨a5, k5, hE, hO⟩ := hE.tell
  rw [← HX.out, ← HF.out] at hE
  rw [← HX.out] at hO
  subst hE
  obtain ⟨Z5, hZ⟩ : ∃ Z, Z = w1.alloc (.cells (#[.slice a5 xx.length k5, .int .i64 XF]) 24) := ⟨_, rfl⟩
  obtain ⟨s5, hs⟩ : ∃ s, s = w1.heap.size := ⟨_, rfl⟩
  have hbz : Below w.heap.size w Z5 := hb.trans (by rw [hZ]; exact (nbel_alloc _ _).mono hb.size)
  have hr : Z5.rowIs s5 24 2 (rowN ([.slice a5 xx.length k5, .int .i64 XF])) := by rw [hZ, hs]; exact rowN_alloc w1 ([.slice a5 xx.length k5, .int .i64 XF]) _
  have ho : CyO 38 w.heap.size (xx.length * 2) a5 k5 (Ln.fl xx) Z5 := by rw [hZ]; exact hO.below (nbel_alloc _ _)
  have hls : w.heap.size ≤ s5 := by rw [hs]; exact Nat.le_trans SZ0.out hb.size
  have FS := Lib.hid ((fact_row hr hls).with (fact_cyo ho SZ0.out (Nat.le_trans SZ0.out hbz.size)))
  have HZ := Lib.hid hZ
  have HSS := Lib.hid hs
  clear hZ hs hr ho hls hb hO KT SZ0
  replace OLD := Lib.hid (OLD.out.trans (hbz.mono OLD.out.size))
  clear hbz
  go_wp2_with fail
  rw [← HZ.out, ← HSS.out]
  clear HZ HSS
  refine (implRead_any s _ hzs (HG.out.below OLD.out)).mono ?_
  rintro e w2 ⟨hE, hb⟩
  obtain ⟨a6, k6, hE, hO⟩ := hE.tell
  rw [← HX.out, ← HF.out] at hE
  rw [← HX.out] at hO
  subst hE
  obtain ⟨Z6, hZ⟩ : ∃ Z, Z = w2.alloc (.cells (#[.slice a6 xx.length k6, .int .i64 XF]) 24) := ⟨_, rfl⟩
  obtain ⟨s6, hs⟩ : ∃ s, s = w2.heap.size := ⟨_, rfl⟩
  have hbz : Below Z5.heap.size Z5 Z6 := hb.trans (by rw [hZ]; exact (nbel_alloc _ _).mono hb.size)
  have hr : Z6.rowIs s6 24 2 (rowN ([.slice a6 xx.length k6, .int .i64 XF])) := by rw [hZ, hs]; exact rowN_alloc w2 ([.slice a6 xx.length k6, .int .i64 XF]) _
  have ho : CyO 38 Z5.heap.size (xx.length * 2) a6 k6 (Ln.fl xx) Z6 := by rw [hZ]; exact hO.below (nbel_alloc _ _)
  have hls : Z5.heap.size ≤ s6 := by rw [hs]; exact hb.size
  have GA := Lib.hid ((fact_row hr hls).with (fact_cyo ho (Nat.le_refl _) hbz.size))
  have GLS := Lib.hid hls
  have HZ := Lib.hid hZ
  have HSS := Lib.hid hs
  clear hZ hs hr ho hls hb hO
  replace OLD := Lib.hid (OLD.out.trans (hbz.mono OLD.out.size))
  replace FS := Lib.hid (FS.out.below hbz)
  clear hbz
  obtain ⟨⟨y0, y1⟩, _⟩ := rowN2 GA.out.p.1
  obtain ⟨⟨u0, u1⟩, _⟩ := rowN2 FS.out.p.1
  rw [HZ.out, HSS.out] at y0 y1
  rw [HZ.out] at u0 u1
  go_wp2_with fail
  rw [← HZ.out, ← HSS.out]
  clear HZ HSS
  clear y0 y1 u0 u1
  refine (eqPtsOut_same _ _ xx.length _ _ XF (Ln.fl xx) _ GA.out.p.2.at_ FS.out.p.2.at_ HSX.out).mono ?_
  rintro e w3 ⟨rfl, hb⟩
  replace OLD := Lib.hid (OLD.out.trans (hb.mono OLD.out.size))
  replace FS := Lib.hid (FS.out.below hb)
  replace GA := Lib.hid (GA.out.below hb)
  clear hb
  obtain ⟨⟨y0, y1⟩, _⟩ := rowN2 GA.out.p.1
  go_wp2_with fail
  clear y0 y1
  refine (markPtsOut_any (k := 1) XF _ GA.out.p.2 HSX.out (by omega)).mono ?_
  rintro e w4 ⟨rfl, hm, ho⟩
  have hRG : Rng Z5.heap.size w3.heap.size w3 w4 := rng_a ho (fun y j hy e => by simp at hy; subst hy; exact (GA.out.p.2).lt e)
  have hr := row_a ho GA.out.p.1 (fun y hy => by simp at hy; subst hy; exact (GA.out.p.2).ne GA.out.p.1 (by decide))
  clear ho
  have q0 := OLD.out.size
  have q1 := FS.out.le
  have q2 := GA.out.le
  have qq := QQ.out
  replace OLD := Lib.hid (hRG.old OLD.out (by omega) (by omega))
  have hls : Z5.heap.size ≤ s6 := GLS.out
  replace FS := Lib.hid (FS.out.out hRG (by omega))
  replace GA := Lib.hid ((fact_row hr hls).with (fact_cyo hm (Nat.le_refl _) (Nat.le_trans q2.1 (Nat.le_trans q2.2 hRG.size))))
  clear hr hls
  clear hm hRG qq q0 q1 q2 
  obtain ⟨QN, hQ⟩ : ∃ Q : Nat, Q = 1 + xx.length * 2 := ⟨_, rfl⟩
  have HQ : Hid (1 + xx.length * 2 = QN) := hQ.symm
  rw [← hQ]
  have hQ0 : ¬ (QN : Int) < 0 := mark_pos _
  have hQQ : ((QN : Int) != (QN : Int)) = false := by simp
  clear hQ
  obtain ⟨⟨y0, y1⟩, _⟩ := rowN2 GA.out.p.1
  go_wp2_with fail
  clear y0 y1
  refine (heldPtsOut_any (k := 1) XF _ GA.out.p.2 HSX.out (by omega)).mono ?_
  rintro e w5 ⟨rfl, hb⟩
  rw [HQ.out]
  replace OLD := Lib.hid (OLD.out.trans (hb.mono OLD.out.size))
  replace FS := Lib.hid (FS.out.below hb)
  replace GA := Lib.hid (GA.out.below hb)
  clear hb
  have KT := trivial
  have SZ0 := Lib.hid (Nat.le_refl w5.heap.size)
  go_wp2_with fail
  refine (implRead_any s _ hzs (HG.out.below OLD.out)).mono ?_
  rintro e w6 ⟨hE, hb⟩
  obtain ⟨a9, k9, hE, hO⟩ := hE.tell
  rw [← HX.out, ← HF.out] at hE
  rw [← HX.out] at hO
  subst hE
  obtain ⟨Z9, hZ⟩ : ∃ Z, Z = w6.alloc (.cells (#[.slice a9 xx.length k9, .int .i64 XF]) 24) := ⟨_, rfl⟩
  obtain ⟨s9, hs⟩ : ∃ s, s = w6.heap.size := ⟨_, rfl⟩
  have hbz : Below w5.heap.size w5 Z9 := hb.trans (by rw [hZ]; exact (nbel_alloc _ _).mono hb.size)
  have hr : Z9.rowIs s9 24 2 (rowN ([.slice a9 xx.length k9, .int .i64 XF])) := by rw [hZ, hs]; exact rowN_alloc w6 ([.slice a9 xx.length k9, .int .i64 XF]) _
  have ho : CyO 38 w5.heap.size (xx.length * 2) a9 k9 (Ln.fl xx) Z9 := by rw [hZ]; exact hO.below (nbel_alloc _ _)
  have hls : w5.heap.size ≤ s9 := by rw [hs]; exact Nat.le_trans SZ0.out hb.size
  have GB := Lib.hid ((fact_row hr hls).with (fact_cyo ho SZ0.out (Nat.le_trans SZ0.out hbz.size)))
  have HZ := Lib.hid hZ
  have HSS := Lib.hid hs
  clear hZ hs hr ho hls hb hO KT SZ0
  replace OLD := Lib.hid (OLD.out.trans (hbz.mono OLD.out.size))
  replace FS := Lib.hid (FS.out.below hbz)
  replace GA := Lib.hid (GA.out.below hbz)
  clear hbz
  obtain ⟨⟨y0, y1⟩, _⟩ := rowN2 GB.out.p.1
  obtain ⟨⟨u0, u1⟩, _⟩ := rowN2 FS.out.p.1
  rw [HZ.out, HSS.out] at y0 y1
  rw [HZ.out] at u0 u1
  go_wp2_with fail
  rw [← HZ.out, ← HSS.out]
  clear HZ HSS
  clear y0 y1 u0 u1
  refine (eqPtsOut_same _ _ xx.length _ _ XF (Ln.fl xx) _ GB.out.p.2.at_ FS.out.p.2.at_ HSX.out).mono ?_
  rintro e w7 ⟨rfl, hb⟩
  replace OLD := Lib.hid (OLD.out.trans (hb.mono OLD.out.size))
  replace FS := Lib.hid (FS.out.below hb)
  replace GA := Lib.hid (GA.out.below hb)
  replace GB := Lib.hid (GB.out.below hb)
  clear hb
  clear GB
  obtain ⟨⟨y0, y1⟩, _⟩ := rowN2 GA.out.p.1
  go_wp2_with fail
  clear y0 y1
  refine (heldPtsOut_any (k := 1) XF _ GA.out.p.2 HSX.out (by omega)).mono ?_
  rintro e w8 ⟨rfl, hb⟩
  rw [HQ.out]
  replace OLD := Lib.hid (OLD.out.trans (hb.mono OLD.out.size))
  replace FS := Lib.hid (FS.out.below hb)
  replace GA := Lib.hid (GA.out.below hb)
  clear hb
  go_wp2_with fail
  go_ret
  exact ⟨rfl, OLD.out⟩
end Go.Proofs.YtlocpliljkgfnaaDoor
