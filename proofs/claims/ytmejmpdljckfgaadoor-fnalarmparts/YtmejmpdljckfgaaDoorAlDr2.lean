/-
  The draw of an alarm's run, with the list that it hands.
-/
import Derived.Test.YtmejmpdljckfgaaDoorAlDr
import Derived.Test.YtmejmpdljckfgaaDoorHsPk
namespace Go.Proofs.YtmejmpdljckfgaaDoor
open Go Go.RowKit Go.Deep

set_option maxRecDepth 100000 in
set_option maxHeartbeats 16000000 in
theorem dactsL_any (sb : Nat) (w : World) (h : Src sb w) :
    Calls Tryd.prog 38 #[.pointer (some ⟨sb, 0, none⟩)] w fun e w' => (∃ a n c F, e = .returned (.slice a n c) ∧ CyO 50 w.heap.size (n * 2) a c F w' ∧ n ≤ 400) ∧ Drew sb w w' := by
  obtain ⟨i0, hi0, hz0, hz1, hz2⟩ := info_parts dainfo
  have H := Lib.hid h
  have hlt := h.lt
  obtain ⟨a, len, cap, at_, mix, size, hS, h1, h2, h3, h4, h5, h6⟩ := h
  obtain ⟨s0, s1, s2, s3, _⟩ := hS
  clear h1 h2 h3 h6
  go_enter Tryd.func38, Tryd.ntmps38
  go_wp2_with fail
  refine (n_any sb (6 + 2 * size) _ H.out (by omega)).mono ?_
  rintro e w1 ⟨⟨v, rfl, va, vb, vc⟩, hD⟩
  have vd : v ≤ 400 := by
    have := vb (by omega)
    omega
  have HD := Lib.hid hD
  have HLT := Lib.hid hlt
  clear hD vb vc s0 s1 s2 s3 h4 h5 hlt
  go_wp2_with fail
  refine (one_any sb 60 _ HD.out.1 (by omega)).mono ?_
  rintro e w2 ⟨⟨bb, rfl⟩, hD⟩
  have HD2 := Lib.hid (aldrew_more HD.out hD)
  clear hD HD
  cases bb
  · obtain ⟨N, hN⟩ : ∃ N : Nat, v = (N : Int) := ⟨v.toNat, by omega⟩
    subst hN
    have hN4 : N ≤ 400 := by omega
    clear va vd
    have HST : Hid (DcS w2 sb (.slice (some ⟨w2.heap.size, 0, none⟩) 0 0) [] (w2.alloc (.cells #[] 50))) := ⟨World.ownsRow_made (e := 50) (size := 2) w2 #[] 0 (Nat.le_refl _) (Nat.zero_le _) rfl, aldrew_bel (V := w2) ⟨HD2.out.1, Chg.refl _ _⟩ (nbel_alloc _ _), HD2.out.1.lt⟩
    go_wp2_with fail
    go_loopw [3, 4] (fun nv lv wr => ∃ (i : Nat) (zs : List (Int × Int)), i ≤ N ∧ nv = .int .i64 ((N : Int) - (i : Int)) ∧ Hid (DcS w2 sb lv zs wr) ∧ Hid (zs.length = i)) (fun nv _ _ => (intOf nv).toNat)
    case atStart => exact ⟨0, [], Nat.zero_le _, by simp <;> omega, HST, rfl⟩
    case round =>
      obtain ⟨i, zs, hi, rfl, hS, hz⟩ := hrel
      clear HST
      obtain ⟨la, lc, rfl, _⟩ := own_ns hS.out.1
      by_cases hlt : i < N
      · have hltz : (0 : Int) < (N : Int) - (i : Int) := by omega
        have HLN : Hid (zs.length ≤ 400) := by show zs.length ≤ 400; rw [hz.out]; omega
        go_wp2_with fail
        refine (dact_any sb _ hS.out.2.1.1).mono ?_
        rintro e w9 ⟨⟨k, x, rfl⟩, hD⟩
        have HS2 := Lib.hid (hS.out.draw hD)
        have HO : Hid ((w9.alloc (.cells #[.int .i64 k, .int .i64 x] 50)).ownsRow w2.heap.size 50 2 (.slice la zs.length lc) zs.length (nvs zs)) := HS2.out.1.alloc _
        have HM := Lib.hid (one_in w9 50 k x)
        have HSZ : Hid (w2.heap.size ≤ w9.heap.size) := HS2.out.2.1.2.2.2.2.1
        clear hD hS
        go_wp2_with (at_builtin; refine wpList_append_ns (l := zs) (m := [(k, x)]) rfl _ _ 41 rfl 50 i0 (.agg #[.int .i64 0, .int .i64 0]) 16 Tryd.underlying41 hi0 hz0 hz1 hz2 rfl w2.heap.size _ rfl HO.out (some ⟨w9.heap.size, 0, none⟩) 1 rfl HM.out (by have := HLN.out; unfold maxLen; simp; omega) (by have := HLN.out; simp; omega) (by have := HSZ.out; simp; omega) ?_)
        intro v' y3 hown hgrow
        have hown2 : y3.ownsRow w2.heap.size 50 2 v' (zs ++ [(k, x)]).length (nvs (zs ++ [(k, x)])) := by simpa using hown
        have HP := Lib.hid (HS2.out.push hgrow hown2)
        clear hown hown2 hgrow HS2 HO HM
        go_wp2_with fail
        go_roundw
        case rel => exact ⟨i + 1, zs ++ [(k, x)], by omega, by first | rfl | (simp; omega), HP, by show _ = _; simp [hz.out]⟩
        case measure => simp [intOf]; omega
      · obtain rfl : i = N := by omega
        have hnz : ¬ (0 : Int) < (i : Int) - (i : Int) := by omega
        have HE := Lib.hid (aldrew_more HD2.out hS.out.2.1)
        obtain ⟨qa, qc, qe, hq⟩ := cyo_own hS.out.1
        have e1 : la = qa := by injection qe
        have e2 : lc = qc := by injection qe
        subst e1 e2
        have HQ : Hid (CyO 50 w.heap.size (zs.length * 2) la lc (Ln.fl zs) wr) := hq.low HD2.out.2.2.2.2.1
        have HLN : Hid (zs.length ≤ 400) := by show zs.length ≤ 400; rw [hz.out]; omega
        clear hS qe hq
        go_wp2_with fail
        go_ret
        exact ⟨⟨_, _, _, rfl, ⟨_, HQ.out⟩, HLN.out⟩, HE.out⟩
  · go_wp2_with fail
    refine (n_any sb 3 _ HD2.out.1 (by omega)).mono ?_
    rintro e w3 ⟨⟨u, rfl, ua, ub, uc⟩, hD⟩
    have ud := ub (by omega)
    have HD3 := Lib.hid (aldrew_more HD2.out hD)
    obtain ⟨N, hN⟩ : ∃ N : Nat, 299 + u = (N : Int) := ⟨(299 + u).toNat, by omega⟩
    have hN4 : N ≤ 400 := by omega
    obtain ⟨U, hU⟩ : ∃ U : Int, U = 299 + u := ⟨_, rfl⟩
    have hUN : U = (N : Int) := by omega
    have HWR : Hid (IntKind.i64.wrap (299 + u) = (N : Int)) := by show _ = _; rw [← hN]; exact awrap_id (by omega) (by omega)
    have huz : u = (N : Int) - 299 := by omega
    subst huz
    clear hD ub uc HD2 hN hU hUN va vd ua ud HWR
    have HST : Hid (DcS w3 sb (.slice (some ⟨w3.heap.size, 0, none⟩) 0 0) [] (w3.alloc (.cells #[] 50))) := ⟨World.ownsRow_made (e := 50) (size := 2) w3 #[] 0 (Nat.le_refl _) (Nat.zero_le _) rfl, aldrew_bel (V := w3) ⟨HD3.out.1, Chg.refl _ _⟩ (nbel_alloc _ _), HD3.out.1.lt⟩
    go_wp2_with fail
    go_loopw [3, 4] (fun nv lv wr => ∃ (i : Nat) (zs : List (Int × Int)), i ≤ N ∧ nv = .int .i64 ((N : Int) - (i : Int)) ∧ Hid (DcS w3 sb lv zs wr) ∧ Hid (zs.length = i)) (fun nv _ _ => (intOf nv).toNat)
    case atStart => exact ⟨0, [], Nat.zero_le _, by simp <;> omega, HST, rfl⟩
    case round =>
      obtain ⟨i, zs, hi, rfl, hS, hz⟩ := hrel
      clear HST
      obtain ⟨la, lc, rfl, _⟩ := own_ns hS.out.1
      by_cases hlt : i < N
      · have hltz : (0 : Int) < (N : Int) - (i : Int) := by omega
        have HLN : Hid (zs.length ≤ 400) := by show zs.length ≤ 400; rw [hz.out]; omega
        go_wp2_with fail
        refine (dact_any sb _ hS.out.2.1.1).mono ?_
        rintro e w9 ⟨⟨k, x, rfl⟩, hD⟩
        have HS2 := Lib.hid (hS.out.draw hD)
        have HO : Hid ((w9.alloc (.cells #[.int .i64 k, .int .i64 x] 50)).ownsRow w3.heap.size 50 2 (.slice la zs.length lc) zs.length (nvs zs)) := HS2.out.1.alloc _
        have HM := Lib.hid (one_in w9 50 k x)
        have HSZ : Hid (w3.heap.size ≤ w9.heap.size) := HS2.out.2.1.2.2.2.2.1
        clear hD hS
        go_wp2_with (at_builtin; refine wpList_append_ns (l := zs) (m := [(k, x)]) rfl _ _ 41 rfl 50 i0 (.agg #[.int .i64 0, .int .i64 0]) 16 Tryd.underlying41 hi0 hz0 hz1 hz2 rfl w3.heap.size _ rfl HO.out (some ⟨w9.heap.size, 0, none⟩) 1 rfl HM.out (by have := HLN.out; unfold maxLen; simp; omega) (by have := HLN.out; simp; omega) (by have := HSZ.out; simp; omega) ?_)
        intro v' y3 hown hgrow
        have hown2 : y3.ownsRow w3.heap.size 50 2 v' (zs ++ [(k, x)]).length (nvs (zs ++ [(k, x)])) := by simpa using hown
        have HP := Lib.hid (HS2.out.push hgrow hown2)
        clear hown hown2 hgrow HS2 HO HM
        go_wp2_with fail
        go_roundw
        case rel => exact ⟨i + 1, zs ++ [(k, x)], by omega, by first | rfl | (simp; omega), HP, by show _ = _; simp [hz.out]⟩
        case measure => simp [intOf]; omega
      · obtain rfl : i = N := by omega
        have hnz : ¬ (0 : Int) < (i : Int) - (i : Int) := by omega
        have HE := Lib.hid (aldrew_more HD3.out hS.out.2.1)
        obtain ⟨qa, qc, qe, hq⟩ := cyo_own hS.out.1
        have e1 : la = qa := by injection qe
        have e2 : lc = qc := by injection qe
        subst e1 e2
        have HQ : Hid (CyO 50 w.heap.size (zs.length * 2) la lc (Ln.fl zs) wr) := hq.low HD3.out.2.2.2.2.1
        have HLN : Hid (zs.length ≤ 400) := by show zs.length ≤ 400; rw [hz.out]; omega
        clear hS qe hq
        go_wp2_with fail
        go_ret
        exact ⟨⟨_, _, _, rfl, ⟨_, HQ.out⟩, HLN.out⟩, HE.out⟩
set_option maxRecDepth 100000 in
set_option maxHeartbeats 16000000 in
theorem drawARL_any (a : Option Addr) (len cap : Nat) (w : World) (h : Bytes a len w) (hl : len ≤ 4194304) :
    Calls Tryd.prog 11 #[.slice a len cap] w fun e w' => (∃ (X : Al.A) (b : Option Addr) (n c : Nat) (F : Nat → Int), e = .returned (.tuple #[alV X, .slice b n c]) ∧ CyO 50 w.heap.size (n * 2) b c F w' ∧ n ≤ 400) ∧ Below w.heap.size w w' := by
  have H := Lib.hid h
  clear h
  obtain ⟨W, hW⟩ : ∃ W, W = w.alloc (.cells #[.int .i64 0, .int .i64 0, .int .i64 0, .int .i64 0, .int .i64 0, .int .i64 0] 40) := ⟨_, rfl⟩
  have HR : Hid (W.rowIs w.heap.size 40 6 (rowN [.int .i64 0, .int .i64 0, .int .i64 0, .int .i64 0, .int .i64 0, .int .i64 0])) := by show World.rowIs _ _ _ _ _; rw [hW]; exact rowN_alloc w [.int .i64 0, .int .i64 0, .int .i64 0, .int .i64 0, .int .i64 0, .int .i64 0] _
  have HB : Hid (Below w.heap.size w W) := by show Below _ _ _; rw [hW]; exact nbel_alloc _ _
  have HW := Lib.hid hW
  clear hW
  go_enter Tryd.func11, Tryd.ntmps11
  go_wp2_with fail
  rw [← HW.out]
  clear HW
  refine (source_any a len cap _ (H.out.below HB.out) hl).mono ?_
  rintro e w1 ⟨rfl, hs, hb⟩
  obtain ⟨sb, hsb⟩ : ∃ s, s = W.heap.size := ⟨_, rfl⟩
  rw [← hsb] at hs ⊢
  have HS := Lib.hid hs
  have HR1 := Lib.hid (nrow_below HR.out hb)
  have HB1 : Hid (Below w.heap.size w w1) := HB.out.trans (hb.mono HB.out.size)
  have HSB : Hid (w.heap.size < sb) := by show _ < _; rw [hsb]; exact HR.out.lt
  clear hs hb HR HB hsb H
  go_wp2_with fail
  refine (dalarm_any sb _ HS.out).mono ?_
  rintro e w2 ⟨⟨X, rfl⟩, hD⟩
  have HS2 := Lib.hid hD.1
  have HR2 := Lib.hid (HR1.out.of_block (hD.2.2.2.2.2 _ HR1.out.lt (by have := HSB.out; omega)))
  have HB2 : Hid (Below w.heap.size w w2) := HB1.out.trans (hD.2.below (Nat.le_of_lt HSB.out) HB1.out.size)
  clear hD HS HR1 HB1
  obtain ⟨V, hV⟩ : ∃ V, V = w2.alloc (.cells #[.int .i64 X.hi, .int .i64 X.lo, .int .i64 X.dl, .int .i64 X.st, .int .i64 X.ct, .int .i64 X.sh] 40) := ⟨_, rfl⟩
  obtain ⟨g, hg⟩ : ∃ g, g = w2.heap.size := ⟨_, rfl⟩
  have HQ : Hid (V.rowIs g 40 6 (rowN (alL X)) ∧ V.rowIs w.heap.size 40 6 (rowN [.int .i64 0, .int .i64 0, .int .i64 0, .int .i64 0, .int .i64 0, .int .i64 0]) ∧ Src sb V ∧ Below w.heap.size w V ∧ sb < g) := by
    show _ ∧ _
    rw [hV, hg]
    exact ⟨rowN_alloc w2 (alL X) _, nrow_below HR2.out (nbel_alloc _ _), HS2.out.below (nbel_alloc _ _), HB2.out.alloc HB2.out.size _, HS2.out.lt⟩
  have HV := Lib.hid hV
  have HG := Lib.hid hg
  clear hV hg HR2 HS2 HB2
  go_wp2_with fail
  rw [← HG.out, ← HV.out]
  clear HG HV
  refine wp_region_held_drew (S := fun Y => Y.rowIs g 40 6 (rowN (alL X))) (by kernel_rfl) (HQ.out.1.of_block rfl) (fun hHeld => ?_)
  obtain ⟨Z, hZ⟩ : ∃ Z, Z = V.drew := ⟨_, rfl⟩
  have HZQ : Hid (Z.rowIs w.heap.size 40 6 (rowN [.int .i64 0, .int .i64 0, .int .i64 0, .int .i64 0, .int .i64 0, .int .i64 0]) ∧ Src sb Z ∧ Below w.heap.size w Z ∧ w.heap.size < sb ∧ sb < g) := by
    show _ ∧ _
    rw [hZ]
    exact ⟨HQ.out.2.1.of_block rfl, HQ.out.2.2.1.below (Below.refl _ _).drew, HQ.out.2.2.2.1.trans ((Below.refl _ _).drew.mono HQ.out.2.2.2.1.size), HSB.out, HQ.out.2.2.2.2⟩
  rw [← hZ] at hHeld ⊢
  clear hZ HQ HSB
  refine take_do (i := 0) (v := (alV X)) rfl (by kernel_rfl) (by kernel_rfl) (by kernel_rfl) (fun _ _ _ h => h) (by rfl) ?_ (by assumption) ?_
  · intro w hSw
    obtain ⟨⟨c0, c1, c2, c3, c4, c5⟩, _⟩ := rowN6 hSw
    go_simp
  simp only [Act.put, List.setIfInBounds_toArray, List.set_cons_zero, List.set_cons_succ]
  refine take_do (i := 1) (v := (.pointer (some ⟨sb, 0, none⟩))) rfl (by kernel_rfl) (by kernel_rfl) (by kernel_rfl) (fun _ _ _ h => h) (by rfl) ?_ (by assumption) ?_
  · intro w hSw
    go_simp
  simp only [Act.put, List.setIfInBounds_toArray, List.set_cons_zero, List.set_cons_succ]
  refine take_call (i := 2) rfl (by kernel_rfl) (fun K2 hK => ?_)
  go_simp
  refine (dactsL_any sb _ HZQ.out.2.1).mono ?_
  rintro e w3 ⟨⟨b, n, c, F, rfl, hcy, hn4⟩, hD⟩
  have HC3 : Hid (CyO 50 w.heap.size (n * 2) b c F w3) := hcy.low HZQ.out.2.2.1.size
  have HCN : Hid (b ≠ some ⟨w.heap.size, 0, none⟩) := hcy.ne (HZQ.out.1.of_block (hD.2.2.2.2.2 _ HZQ.out.1.lt (by have := HZQ.out.2.2.2.1; omega))) (by decide)
  have HN4 := Lib.hid hn4
  clear hcy hn4
  have HR3 := Lib.hid (HZQ.out.1.of_block (hD.2.2.2.2.2 _ HZQ.out.1.lt (by have := HZQ.out.2.2.2.1; omega)))
  have HB3 : Hid (Below w.heap.size w w3) := HZQ.out.2.2.1.trans (hD.2.below (Nat.le_of_lt HZQ.out.2.2.2.1) HZQ.out.2.2.1.size)
  have HL3 : Hid (w.heap.size ≠ g) := by have := HZQ.out.2.2.2; show _ ≠ _; omega
  go_wp2_with fail
  refine hK.out _ _ (hHeld.of_block (hD.2.2.2.2.2 _ hHeld.lt (by have := HZQ.out.2.2.2.2; omega))) (fun hHeld2 => ?_)
  clear hK hHeld hD HZQ
  have hHeld := hHeld2
  clear hHeld2
  obtain ⟨⟨o0, o1, o2, o3, o4, o5⟩, z0, z1, z2, z3, z4, z5⟩ := rowN6 HR3.out
  have hol := HR3.out.lt
  have zr := al6put HR3.out rfl (.int .i64 X.hi) (.int .i64 X.lo) (.int .i64 X.dl) (.int .i64 X.st) (.int .i64 X.ct) (.int .i64 X.sh)
  have zb := al6bel (g := w.heap.size) HB3.out (Nat.le_refl _) (.int .i64 X.hi) (.int .i64 X.lo) (.int .i64 X.dl) (.int .i64 X.st) (.int .i64 X.ct) (.int .i64 X.sh)
  have zh := hHeld.of_block (al6blk (W := w3) (k := g) (g := w.heap.size) (fun e => HL3.out e.symm) (.int .i64 X.hi) (.int .i64 X.lo) (.int .i64 X.dl) (.int .i64 X.st) (.int .i64 X.ct) (.int .i64 X.sh))
  have zc : CyO 50 w.heap.size (n * 2) b c F ((((((w3.setCell ⟨w.heap.size, 0, none⟩ (.int .i64 X.hi)).setCell ⟨w.heap.size, 1, none⟩ (.int .i64 X.lo)).setCell ⟨w.heap.size, 2, none⟩ (.int .i64 X.dl)).setCell ⟨w.heap.size, 3, none⟩ (.int .i64 X.st)).setCell ⟨w.heap.size, 4, none⟩ (.int .i64 X.ct)).setCell ⟨w.heap.size, 5, none⟩ (.int .i64 X.sh)) := HC3.out.keep (fun k e _ _ => al6blk (fun e2 => HCN.out (by rw [e, e2])) _ _ _ _ _ _)
  refine take_call (i := 3) rfl (by kernel_rfl) (fun K2 hK => ?_)
  go_simp
  clear o0 o1 o2 o3 o4 o5 z0 z1 z2 z3 z4 z5
  generalize ((((((w3).setCell ⟨w.heap.size, 0, none⟩ (.int .i64 X.hi)).setCell ⟨w.heap.size, 1, none⟩ (.int .i64 X.lo)).setCell ⟨w.heap.size, 2, none⟩ (.int .i64 X.dl)).setCell ⟨w.heap.size, 3, none⟩ (.int .i64 X.st)).setCell ⟨w.heap.size, 4, none⟩ (.int .i64 X.ct)).setCell ⟨w.heap.size, 5, none⟩ (.int .i64 X.sh) = Y at zr zb zh zc ⊢
  refine hK.out _ _ zh (fun hHeld2 => ?_)
  clear hK hHeld hHeld2
  have ZR := Lib.hid zr
  have ZB := Lib.hid zb
  have ZC := Lib.hid zc
  refine take_do (i := 4) (v := (.slice b n c)) rfl (by kernel_rfl) (by kernel_rfl) (by kernel_rfl) (fun _ _ _ h => h) (by rfl) ?_ zh ?_
  · intro w hSw
    go_simp
  simp only [Act.put, List.setIfInBounds_toArray, List.set_cons_zero, List.set_cons_succ]
  refine wpAnyH_done (by kernel_rfl) ?_ _
  clear zr zb zh zc
  go_wp2_with fail
  obtain ⟨⟨p0, p1, p2, p3, p4, p5⟩, _⟩ := rowN6 ZR.out
  exact bodyPost_ret (v := .tuple #[alV X, .slice b n c]) (by simp only [results, Tryd.results11]; simp [go_sem, p0, p1, p2, p3, p4, p5]) rfl ⟨⟨X, b, n, c, F, rfl, ZC.out, HN4.out⟩, ZB.out⟩
end Go.Proofs.YtmejmpdljckfgaaDoor
