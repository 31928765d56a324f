/-
  The program's run of a meter.
-/
import Derived.Test.YtmejmpdljckfgaaDoorMtV0
import Derived.Test.YtmejmpdljckfgaaDoorMtR3
import Derived.Test.YtmejmpdljckfgaaDoorTbTab
namespace Go.Proofs.YtmejmpdljckfgaaDoor
open Go.RowKit Go.Deep

theorem uinfo : (Tryd.prog.info? 33).map (fun i => (i.zero, i.size, i.bytes)) = some (some (.agg #[.int .i64 0, .int .i64 0, .int .i64 0, .int .i64 0]), 4, 32) := by kernel_rfl
/-- How a run is told. -/
def RtEnd (B : Nat) (m : Mt.M) (n : Nat) (R : Nat → Int) (e : Ending) (W : World) : Prop :=
  (¬ Mt.RunOk m R n ∧ ∃ y, e = .returned (.tuple #[muV Mt.none none 0 0 0, .iface 83 y]) ∧ AsF y 1) ∨
  (Mt.RunOk m R n ∧ ∃ a c, e = .returned (.tuple #[muV (Mt.mAt m R n) a n c 0, .nilIface]) ∧ UsOwn B n a c (Mt.use m R) W)
theorem Mt.use_at (m : Mt.M) (R : Nat → Int) (i j : Nat) (hj : j < 4) : Mt.use (Mt.mAt m R i) (Mt.rd1 (R (i * 2)) (R (i * 2 + 1))) j = Mt.use m R (i * 4 + j) := by
  have : j = 0 ∨ j = 1 ∨ j = 2 ∨ j = 3 := by omega
  rcases this with rfl | rfl | rfl | rfl
  · exact (Mt.use0 _ _ 0).trans (Mt.use0 m R i).symm
  · exact (Mt.use1 _ _ 0).trans (Mt.use1 m R i).symm
  · exact (Mt.use2 _ _ 0).trans (Mt.use2 m R i).symm
  · exact (Mt.use3 _ _ 0).trans (Mt.use3 m R i).symm
set_option maxRecDepth 100000 in
set_option maxHeartbeats 16000000 in
theorem runMt_any (m : Mt.M) (la : Option Addr) (n cap : Nat) (R : Nat → Int) (w : World) (h : IsAt la (n * 2) R w) (hn : n ≤ 60) (ht : TabOk w) :
    Calls Tryd.prog 34 #[mtV m, .slice la n cap] w fun e w' => RtEnd w.heap.size m n R e w' ∧ Below w.heap.size w w' := by
  obtain ⟨i0, hi0, hz0, hz1, hz2⟩ := info_parts uinfo
  obtain ⟨W, hW⟩ : ∃ W, W = (w.alloc (.cells #[.int .i64 m.d, .int .i64 m.u, .int .i64 m.day, .int .i64 m.s] 24)).alloc (.cells #[.int .i64 0, .int .i64 0, .int .i64 0, .int .i64 0, .slice none 0 0, .int .i64 0] 30) := ⟨_, rfl⟩
  have HM : Hid (W.rowIs w.heap.size 24 4 (rowN (mtL m))) := by show World.rowIs _ _ _ _ _; rw [hW]; exact nrow_below (rowN_alloc w _ _) (nbel_alloc _ _)
  have HO : Hid (W.rowIs (w.heap.size + 1) 30 6 (rowN (muL Mt.none none 0 0 0))) := by show World.rowIs _ _ _ _ _; rw [hW]; exact rowN_alloc' (by simp) _ _
  have HB : Hid (Below w.heap.size w W) := by show Below _ _ _; rw [hW]; exact (nbel_alloc _ _).alloc (by simp) _
  have HW := Lib.hid hW
  have H := Lib.hid h
  have HT := Lib.hid ht
  clear hW h ht
  go_enter Tryd.func34, Tryd.ntmps34
  go_wp2_with fail
  rw [← HW.out]
  clear HW
  refine (implRight_any m _).mono ?_
  rintro e w1 ⟨rfl, hb⟩
  have HM1 := Lib.hid (nrow_below HM.out hb)
  have HO1 := Lib.hid (nrow_below HO.out hb)
  have HB1 : Hid (Below w.heap.size w w1) := HB.out.trans (hb.mono HB.out.size)
  clear hb HM HO HB
  obtain ⟨⟨m0, m1, m2, m3⟩, _⟩ := rowN4 HM1.out
  obtain ⟨⟨o0, o1, o2, o3, o4, o5⟩, z0, z1, z2, z3, z4, z5⟩ := rowN6 HO1.out
  have hol := HO1.out.lt
  by_cases c : Mt.Right m
  case neg =>
    rw [Mt.dB_ff c]
    have HNO : Hid (¬ Mt.RunOk m R n) := fun h => c h.1
    clear c
    obtain ⟨Z, hZ⟩ : ∃ Z, Z = ((((((w1).setCell ⟨w.heap.size + 1, 0, none⟩ (.int .i64 0)).setCell ⟨w.heap.size + 1, 1, none⟩ (.int .i64 0)).setCell ⟨w.heap.size + 1, 2, none⟩ (.int .i64 0)).setCell ⟨w.heap.size + 1, 3, none⟩ (.int .i64 0)).setCell ⟨w.heap.size + 1, 4, none⟩ (.slice none 0 0)).setCell ⟨w.heap.size + 1, 5, none⟩ (.int .i64 0) := ⟨_, rfl⟩
    have HZR : Hid (Z.rowIs (w.heap.size + 1) 30 6 (rowN (muL Mt.none none 0 0 0))) := by show Z.rowIs _ _ _ _; rw [hZ]; exact mput6 HO1.out rfl (.int .i64 0) (.int .i64 0) (.int .i64 0) (.int .i64 0) (.slice none 0 0) (.int .i64 0)
    have HZB : Hid (Below w.heap.size w Z) := by show Below _ _ _; rw [hZ]; exact mbel6 (g := w.heap.size + 1) HB1.out (by omega) (.int .i64 0) (.int .i64 0) (.int .i64 0) (.int .i64 0) (.slice none 0 0) (.int .i64 0)
    have HZ := Lib.hid hZ
    clear hZ
    go_wp2_with fail
    rw [← HZ.out]
    obtain ⟨⟨p0, p1, p2, p3, p4, p5⟩, _⟩ := rowN6 HZR.out
    exact bodyPost_ret (v := .tuple #[muV Mt.none none 0 0 0, .iface 83 (.agg #[.string ⟨#[97, 32, 109, 101, 116, 101, 114]⟩, .iface 79 (.agg #[.int .i64 1])])]) (by simp only [results, Tryd.results34]; simp [go_sem, p0, p1, p2, p3, p4, p5, Mt.none]) rfl ⟨Or.inl ⟨HNO.out, _, rfl, AsF.one _ _⟩, HZB.out⟩
  rw [Mt.dB_tt c]
  have HRT := Lib.hid c
  clear c
  obtain ⟨b6, hb6⟩ : ∃ b, b = w1.heap.size := ⟨_, rfl⟩
  obtain ⟨W1, hW1⟩ : ∃ W1, W1 = w1.alloc (.cells #[.int .i64 m.d, .int .i64 m.u, .int .i64 m.day, .int .i64 m.s, .slice none 0 0, .int .i64 0] 30) := ⟨_, rfl⟩
  have HS0 : Hid (RnS w (Mt.mAt m R 0) (.slice none 0 0) 0 (w.heap.size + 1) b6 (Mt.use m R) W1) := by
    show RnS _ _ _ _ _ _ _ _
    rw [hW1, hb6]
    exact ⟨nrow_below HO1.out (nbel_alloc _ _), rowN_alloc w1 [.int .i64 m.d, .int .i64 m.u, .int .i64 m.day, .int .i64 m.s, .slice none 0 0, .int .i64 0] _, UsR.nil _ _ _, ⟨by omega, hol⟩, HB1.out.alloc HB1.out.size _⟩
  have HWE := Lib.hid hW1
  have HBE := Lib.hid hb6
  clear hW1 hb6
  go_wp2_with fail
  rw [← HWE.out, ← HBE.out]
  clear HWE HBE HM1 HO1 HB1 m0 m1 m2 m3 o0 o1 o2 o3 o4 o5 z0 z1 z2 z3 z4 z5 hol
  go_loopw [7, 8, 9, 10, 23] (fun _ _ _ _ iv wr => ∃ (i : Nat) (v : Value), i ≤ n ∧ iv = .int .i64 i ∧ Hid (RnS w (Mt.mAt m R i) v i (w.heap.size + 1) b6 (Mt.use m R) wr) ∧ Hid (∀ j, j < i → Mt.OkAt m R j)) (fun _ _ _ _ iv _ => n - (intOf iv).toNat)
  case atStart => exact ⟨0, _, Nat.zero_le _, rfl, HS0, fun j hj => absurd hj (Nat.not_lt_zero _)⟩
  case round =>
    obtain ⟨i, v, hi, rfl, hS, hP⟩ := hrel
    clear HS0
    obtain ⟨a, c, rfl⟩ := hS.out.l.shape
    obtain ⟨X, hX⟩ : ∃ X, X = Mt.mAt m R i := ⟨_, rfl⟩
    rw [← hX] at hS
    have HX := Lib.hid hX
    clear hX
    by_cases hlt : i < n
    · have hltz : (i : Int) < (n : Int) := by omega
      obtain ⟨b, e, c0, c1⟩ := (H.out.below hS.out.old).at2 hlt
      subst e
      have zb : b < wr.heap.size := World.block_lt_of_cell? _ _ c0
      obtain ⟨rd, hrd⟩ : ∃ x, x = R (i * 2) := ⟨_, rfl⟩
      obtain ⟨rs, hrs⟩ : ∃ x, x = R (i * 2 + 1) := ⟨_, rfl⟩
      rw [← hrd] at c0
      rw [← hrs] at c1
      have HRD := Lib.hid hrd
      have HRS := Lib.hid hrs
      clear hrd hrs
      obtain ⟨W2, hW2⟩ : ∃ W2, W2 = wr.alloc (.cells #[.int .i64 rd, .int .i64 rs] 35) := ⟨_, rfl⟩
      have HS2 : Hid (RnS w X (.slice a i c) i (w.heap.size + 1) b6 (Mt.use m R) W2) := by show RnS _ _ _ _ _ _ _ _; rw [hW2]; exact hS.out.below (nbel_alloc _ _)
      have HWE := Lib.hid hW2
      obtain ⟨⟨r0, r1, r2, r3, r4, r5⟩, _⟩ := rowN6 hS.out.r
      have hrl := hS.out.r.lt
      clear hW2 hS
      go_wp2_with fail
      rw [← HWE.out]
      clear HWE c0 c1 zb r0 r1 r2 r3 r4 r5 hrl
      refine (told_any X rd rs _).mono ?_
      rintro e w3 ⟨he, hb⟩
      have HS3 := Lib.hid (HS2.out.below hb)
      have HLW : Hid (w.heap.size ≤ W2.heap.size) := HS2.out.old.size
      clear hb HS2
      rcases he with ⟨hk, y, rfl, hy⟩ | ⟨hk, g, rfl, hgl, hgb⟩
      · have HNO : Hid (¬ Mt.RunOk m R n) := fun h => hk (by have := h.2 i hlt; unfold Mt.OkAt at this; rw [← HX.out, ← HRD.out, ← HRS.out] at this; exact this)
        have HY := Lib.hid hy
        obtain ⟨W4, hW4⟩ : ∃ W4, W4 = w3.alloc (.cells #[.int .i64 Mt.none.d, .int .i64 Mt.none.u, .int .i64 Mt.none.day, .int .i64 Mt.none.s, .slice none 0 0, .int .i64 0] 30) := ⟨_, rfl⟩
        have HS4 : Hid (RnS w X (.slice a i c) i (w.heap.size + 1) b6 (Mt.use m R) W4) := by show RnS _ _ _ _ _ _ _ _; rw [hW4]; exact HS3.out.below (nbel_alloc _ _)
        have HWE := Lib.hid hW4
        clear hk hy hW4 HS3
        go_wp2_with fail
        rw [← HWE.out]
        clear HWE
        refine (itoaS_any i (by omega) _ (tab_below HT.out HS4.out.old)).mono ?_
        rintro e w5 ⟨⟨tx, rfl, htx⟩, hb⟩
        have HS5 := Lib.hid (HS4.out.below hb)
        clear hb HS4
        have htz : ¬ 9223372036854775807 < 5 + tx.size := by omega
        obtain ⟨⟨o0, o1, o2, o3, o4, o5⟩, z0, z1, z2, z3, z4, z5⟩ := rowN6 HS5.out.o
        obtain ⟨Z, hZ⟩ : ∃ Z, Z = ((((((w5).setCell ⟨w.heap.size + 1, 0, none⟩ (.int .i64 0)).setCell ⟨w.heap.size + 1, 1, none⟩ (.int .i64 0)).setCell ⟨w.heap.size + 1, 2, none⟩ (.int .i64 0)).setCell ⟨w.heap.size + 1, 3, none⟩ (.int .i64 0)).setCell ⟨w.heap.size + 1, 4, none⟩ (.slice none 0 0)).setCell ⟨w.heap.size + 1, 5, none⟩ (.int .i64 0) := ⟨_, rfl⟩
        have HZR : Hid (Z.rowIs (w.heap.size + 1) 30 6 (rowN (muL Mt.none none 0 0 0))) := by show Z.rowIs _ _ _ _; rw [hZ]; exact mput6 HS5.out.o rfl (.int .i64 0) (.int .i64 0) (.int .i64 0) (.int .i64 0) (.slice none 0 0) (.int .i64 0)
        have HZB : Hid (Below w.heap.size w Z) := by show Below _ _ _; rw [hZ]; exact mbel6 (g := w.heap.size + 1) HS5.out.old (by omega) (.int .i64 0) (.int .i64 0) (.int .i64 0) (.int .i64 0) (.slice none 0 0) (.int .i64 0)
        have HZ := Lib.hid hZ
        clear hZ
        go_wp2_with fail
        rw [← HZ.out]
        obtain ⟨⟨p0, p1, p2, p3, p4, p5⟩, _⟩ := rowN6 HZR.out
        exact bodyPost_ret (v := .tuple #[muV Mt.none none 0 0 0, .iface 83 (.agg #[.string ((⟨#[114, 101, 97, 100, 32]⟩ : ByteArray) ++ tx), .iface 83 y])]) (by simp only [results, Tryd.results34]; simp [go_sem, p0, p1, p2, p3, p4, p5, Mt.none]) rfl ⟨Or.inl ⟨HNO.out, _, rfl, AsF.more _ _ _ HY.out⟩, HZB.out⟩
      · have HK : Hid (Mt.OkAt m R i) := by show Mt.OkAt m R i; unfold Mt.OkAt; rw [← HX.out, ← HRD.out, ← HRS.out]; exact hk
        have HNX : Hid (Mt.mAt m R (i + 1) = Mt.next X rd rs) := by show Mt.next _ _ _ = _; rw [← HX.out, ← HRD.out, ← HRS.out]
        obtain ⟨Y, hY⟩ : ∃ Y, Y = Mt.next X rd rs := ⟨_, rfl⟩
        rw [← hY]
        have HY := Lib.hid hY
        have hu : ∀ j, j < 4 → w3.cell? ⟨g, j, none⟩ = some (.int .i64 (Mt.use m R (i * 4 + j))) := fun j hj => by
          rw [hgb.cell (i := j) (by omega), HX.out, HRD.out, HRS.out, Mt.use_at m R i j hj]
        obtain ⟨x0, x1, x2, x3⟩ : w3.cell? ⟨g, 0, none⟩ = some (.int .i64 (Mt.use m R (i * 4))) ∧ w3.cell? ⟨g, 1, none⟩ = some (.int .i64 (Mt.use m R (i * 4 + 1))) ∧ w3.cell? ⟨g, 2, none⟩ = some (.int .i64 (Mt.use m R (i * 4 + 2))) ∧ w3.cell? ⟨g, 3, none⟩ = some (.int .i64 (Mt.use m R (i * 4 + 3))) := ⟨hu 0 (by omega), hu 1 (by omega), hu 2 (by omega), hu 3 (by omega)⟩
        have hg3 : g < w3.heap.size := hgb.lt
        have hgne : g ≠ b6 := by
          rintro rfl
          obtain ⟨_, _, _, h3, _⟩ := hgb
          obtain ⟨_, q1, _⟩ := h3
          obtain ⟨_, q2, _⟩ := HS3.out.r
          rw [q1] at q2
          simp at q2
        obtain ⟨⟨r0, r1, r2, r3, r4, r5⟩, f0, f1, f2, f3, f4, f5⟩ := rowN6 HS3.out.r
        have hrl := HS3.out.r.lt
        have HGN := Lib.hid hgne
        have HNEW : Hid (∀ j u, [Value.int .i64 (Mt.use m R (i * 4)), .int .i64 (Mt.use m R (i * 4 + 1)), .int .i64 (Mt.use m R (i * 4 + 2)), .int .i64 (Mt.use m R (i * 4 + 3))][j]? = some u → (((((w3.setCell ⟨b6, 0, none⟩ (.int .i64 Y.d)).setCell ⟨b6, 1, none⟩ (.int .i64 Y.u)).setCell ⟨b6, 2, none⟩ (.int .i64 Y.day)).setCell ⟨b6, 3, none⟩ (.int .i64 Y.s)).alloc (.cells #[.int .i64 Y.d, .int .i64 Y.u, .int .i64 Y.day, .int .i64 Y.s, .slice (some ⟨g, 0, none⟩) 1 1, .int .i64 0] 30)).cell? ((⟨g, 0, none⟩ : Addr).add j) = some u) := by
          intro j u hj
          have hjl : j < 4 := by have := (List.getElem?_eq_some_iff.1 hj).1; simpa using this
          have hcell : (((((w3.setCell ⟨b6, 0, none⟩ (.int .i64 Y.d)).setCell ⟨b6, 1, none⟩ (.int .i64 Y.u)).setCell ⟨b6, 2, none⟩ (.int .i64 Y.day)).setCell ⟨b6, 3, none⟩ (.int .i64 Y.s)).alloc (.cells #[.int .i64 Y.d, .int .i64 Y.u, .int .i64 Y.day, .int .i64 Y.s, .slice (some ⟨g, 0, none⟩) 1 1, .int .i64 0] 30)).cell? ⟨g, j, none⟩ = w3.cell? ⟨g, j, none⟩ := by
            rw [World.cell?_alloc_lt _ _ ⟨g, j, none⟩ (by simpa using hg3)]
            exact World.cell?_of_block (w := w3) (by
              show _[g]? = _
              rw [Below.heap_setCell _ _ _ _ hgne, Below.heap_setCell _ _ _ _ hgne, Below.heap_setCell _ _ _ _ hgne, Below.heap_setCell _ _ _ _ hgne])
          rw [Addr.add_lit, Nat.zero_add, hcell]
          have hc : j = 0 ∨ j = 1 ∨ j = 2 ∨ j = 3 := by omega
          rcases hc with rfl | rfl | rfl | rfl
          · simp at hj; rw [x0, hj]
          · simp at hj; rw [x1, hj]
          · simp at hj; rw [x2, hj]
          · simp at hj; rw [x3, hj]
        clear hu hk hgb hgl hY
        go_wp2_with (at_builtin; refine wpList_append_own _ rfl _ _ 28 rfl w.heap.size 33 i0 (.agg #[.int .i64 0, .int .i64 0, .int .i64 0, .int .i64 0]) 4 32 Tryd.underlying28 hi0 hz0 hz1 hz2 rfl (by decide) _ i (isV4 (Mt.use m R) i) rfl ((HS3.out.meter Y).below (nbel_alloc _ _)).l ⟨g, 0, none⟩ 1 1 [.int .i64 (Mt.use m R (i * 4)), .int .i64 (Mt.use m R (i * 4 + 1)), .int .i64 (Mt.use m R (i * 4 + 2)), .int .i64 (Mt.use m R (i * 4 + 3))] rfl rfl ?e1 ?e2 ?e3 ?e4 ?e5 ?_)
        try (case e1 => exact HNEW.out)
        try (case e2 => (intro u hu; simp at hu; rcases hu with rfl | rfl | rfl | rfl <;> rfl))
        try (case e3 => (unfold maxLen; omega))
        try (case e4 => omega)
        try (case e5 => exact ((HS3.out.meter Y).below (nbel_alloc _ _)).old.size)
        intro v' y3 hown hgrow hnil
        obtain ⟨hp, hq⟩ := RnS.push ((HS3.out.meter Y).below (nbel_alloc _ _)) hown hgrow
        obtain ⟨a', c', rfl⟩ := hp.l.shape
        have HP2 := Lib.hid hp
        obtain ⟨⟨s0, s1, s2, s3, s4, s5⟩, g0, g1, g2, g3, g4, g5⟩ := rowN6 hq
        clear hp hq hown hgrow hnil HS3 r0 r1 r2 r3 r4 r5 f0 f1 f2 f3 f4 f5 hrl x0 x1 x2 x3 hg3 HNEW
        go_wp2_with fail
        go_roundw
        case rel => exact ⟨i + 1, _, by omega, by go_num, by rw [HNX.out, ← HY.out]; exact HP2, fun j hj => by
          by_cases e : j = i
          · subst e; exact HK.out
          · exact hP.out j (by omega)⟩
        case measure => simp [intOf]; omega
    · obtain rfl : i = n := by omega
      have HOK : Hid (Mt.RunOk m R i) := ⟨HRT.out, hP.out⟩
      obtain ⟨⟨o0, o1, o2, o3, o4, o5⟩, z0, z1, z2, z3, z4, z5⟩ := rowN6 hS.out.o
      obtain ⟨⟨r0, r1, r2, r3, r4, r5⟩, _⟩ := rowN6 hS.out.r
      obtain ⟨Z, hZ⟩ : ∃ Z, Z = ((((((wr).setCell ⟨w.heap.size + 1, 0, none⟩ (.int .i64 X.d)).setCell ⟨w.heap.size + 1, 1, none⟩ (.int .i64 X.u)).setCell ⟨w.heap.size + 1, 2, none⟩ (.int .i64 X.day)).setCell ⟨w.heap.size + 1, 3, none⟩ (.int .i64 X.s)).setCell ⟨w.heap.size + 1, 4, none⟩ (.slice a i c)).setCell ⟨w.heap.size + 1, 5, none⟩ (.int .i64 0) := ⟨_, rfl⟩
      have HZR : Hid (Z.rowIs (w.heap.size + 1) 30 6 (rowN (muL X a i c 0))) := by show Z.rowIs _ _ _ _; rw [hZ]; exact mput6 hS.out.o rfl (.int .i64 X.d) (.int .i64 X.u) (.int .i64 X.day) (.int .i64 X.s) (.slice a i c) (.int .i64 0)
      have HZB : Hid (Below w.heap.size w Z) := by show Below _ _ _; rw [hZ]; exact mbel6 (g := w.heap.size + 1) hS.out.old (by omega) (.int .i64 X.d) (.int .i64 X.u) (.int .i64 X.day) (.int .i64 X.s) (.slice a i c) (.int .i64 0)
      have HZG : Hid (UsOwn w.heap.size i a c (Mt.use m R) Z) := by
        show UsOwn _ _ _ _ _ _
        rw [hZ]
        exact (hS.out.l.keep (fun g e _ => mblk6 (hS.out.l.ne hS.out.o e) (.int .i64 X.d) (.int .i64 X.u) (.int .i64 X.day) (.int .i64 X.s) (.slice a i c) (.int .i64 0))).own
      have HZ := Lib.hid hZ
      clear hZ hS
      go_wp2_with fail
      rw [← HZ.out]
      obtain ⟨⟨p0, p1, p2, p3, p4, p5⟩, _⟩ := rowN6 HZR.out
      exact bodyPost_ret (v := .tuple #[muV X a i c 0, .nilIface]) (by simp only [results, Tryd.results34]; simp [go_sem, p0, p1, p2, p3, p4, p5]) rfl ⟨Or.inr ⟨HOK.out, a, c, by rw [HX.out], HZG.out⟩, HZB.out⟩
end Go.Proofs.YtmejmpdljckfgaaDoor
