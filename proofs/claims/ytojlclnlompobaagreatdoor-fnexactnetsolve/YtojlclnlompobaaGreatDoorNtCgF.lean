/-
  Joined: NtSn, NtLawS.
-/
import Derived.Test.YtojlclnlompobaaGreatDoorNtCgD
import Derived.Test.YtojlclnlompobaaGreatDoorNtCgE
import Derived.Test.YtojlclnlompobaaGreatDoorNtCgC
import Derived.Test.YtojlclnlompobaaGreatDoorNtEx3
import Derived.Test.YtojlclnlompobaaGreatDoorNtLawR
namespace Go.Proofs.YtojlclnlompobaaGreatDoor
open Go Go.RowKit Go.Deep

theorem sinfo_num : (Tryz.prog.info? 3).map (fun i => (i.zero, i.size, i.bytes)) = some (some (.int .i64 0), 1, 8) := by kernel_rfl
theorem nmk_num (n : Nt.Net) (hr : Nt.Right n) (w : World) : (Instr.makeSlice 60 (.int .i64 n.nodes) (.int .i64 n.nodes)).run Tryz.prog w = .ok (.slice (some ⟨w.heap.size, 0, none⟩) (Nt.nn n) (Nt.nn n)) (w.alloc (.cells (madeCells #[.int .i64 0] (Nt.nn n)) 3)) := by
  have h := hr.nn
  rw [h.1]
  exact run_make_row' (P := Tryz.prog) 60 3 (.int .i64 0) 8 Tryz.underlying60 sinfo_num rfl .i64 .i64 (Nt.nn n) (by omega) (by omega) w
set_option maxRecDepth 100000 in
set_option maxHeartbeats 32000000 in
theorem specSolve_any (n : Nt.Net) (la : Option Addr) (lk : Nat) (fa : Option Addr) (fk : Nat) (wa : Option Addr) (wk : Nat) (w : World) (h : NtAt n la fa wa w) (hs : NtSmall n) :
    Calls Tryz.prog 6 #[ntV n la lk fa fk wa wk] w fun e w' => ToldL w.heap.size (Nt.svLo n) (Nt.svAll n) (Nt.nn n) (Nt.cells2 (Nt.svH n)) e w' ∧ Below w.heap.size w w' := by
  have HA := Lib.hid h
  have HSM := Lib.hid hs
  obtain ⟨W, hW⟩ : ∃ W, W = (w.alloc (.cells #[.int .i64 n.nodes, .slice la n.ln lk, .slice fa n.fn fk, .slice wa n.wn wk] 35)).alloc (.cells #[.slice none 0 0, .int .i64 0, .int .i64 0] 30) := ⟨_, rfl⟩
  have B0 : Hid (Below w.heap.size w W) := by rw [hW]; exact ((Below.refl _ _).alloc (Nat.le_refl _) _).alloc (by simp) _
  have R0 : Hid (W.rowIs w.heap.size 35 4 (rowN (ntL n la lk fa fk wa wk))) := by rw [hW]; exact nrow_below (rowN_alloc w _ _) (nbel_alloc _ _)
  have O0 : Hid (W.rowIs (w.heap.size + 1) 30 3 (rowN (noL none 0 0 0 0))) := by rw [hW]; exact rowN_alloc' (by simp) _ _
  have HW := Lib.hid hW
  clear h hs hW
  go_enter Tryz.func6, Tryz.ntmps6
  go_wp2_with fail
  rw [← HW.out]
  refine (specNet_any n la lk fa fk wa wk _ (HA.out.below B0.out) HSM.out).mono ?_
  rintro e w1 ⟨⟨b1, rfl, hb1⟩, hb⟩
  have B1 : Hid (Below w.heap.size w w1) := B0.out.trans (hb.mono B0.out.size)
  have R1 := Lib.hid (nrow_below R0.out hb)
  have O1 := Lib.hid (nrow_below O0.out hb)
  have E1 := Lib.hid hb1
  clear hb hb1 B0 R0 O0 HW
  have OC : Hid (∀ (x c : Int) (V : World), V.rowIs (w.heap.size + 1) 30 3 (rowN (noL none 0 0 0 0)) → (((V.setCell ⟨w.heap.size + 1, 0, none⟩ (.slice none 0 0)).setCell ⟨w.heap.size + 1, 1, none⟩ (.int .i64 x)).setCell ⟨w.heap.size + 1, 2, none⟩ (.int .i64 c)).rowIs (w.heap.size + 1) 30 3 (rowN (noL none 0 0 x c))) := fun x c V hV => rowN_put (rowN_put (rowN_put hV 0 _ (by simp)) 1 _ (by simp)) 2 _ (by simp)
  obtain ⟨⟨r0, r1, r2, r3⟩, _⟩ := rowN4 R1.out
  obtain ⟨⟨p0, p1, p2⟩, z0, z1, z2⟩ := rowN3 O1.out
  have lw : w.heap.size + 1 < w1.heap.size := O1.out.lt
  cases b1 with
  | false =>
    have HNR : Hid (¬ Nt.Right n) := fun k => by have := E1.out.2 k; cases this
    go_wp2_with fail
    obtain ⟨⟨x0, x1, x2⟩, _⟩ := rowN3 (OC.out 0 1 _ O1.out)
    exact bodyPost_ret (v := noV none 0 0 0 1) (by simp [results, Tryz.results6, go_sem, x0, x1, x2]) rfl ⟨Or.inr ⟨Nt.svLo_no HNR.out, Or.inr ⟨by rw [Nt.svAll_no HNR.out]; decide, by rw [Nt.svAll_no HNR.out]⟩⟩, ((B1.out.setCell (p := ⟨w.heap.size + 1, 0, none⟩) (Nat.le_succ _) _).setCell (p := ⟨w.heap.size + 1, 1, none⟩) (Nat.le_succ _) _).setCell (p := ⟨w.heap.size + 1, 2, none⟩) (Nat.le_succ _) _⟩
  | true =>
  have HR : Hid (Nt.Right n) := E1.out.1 (by trivial)
  clear E1
  go_wp2_with fail
  refine (specLoose_go n la lk fa fk wa wk _ (HA.out.below B1.out) HSM.out HR.out).mono ?_
  rintro e w2 ⟨⟨lv, rfl, hown⟩, hb⟩
  have B2 : Hid (Below w.heap.size w w2) := B1.out.trans (hb.mono B1.out.size)
  have R2 := Lib.hid (nrow_below R1.out hb)
  have O2 := Lib.hid (nrow_below O1.out hb)
  clear hb B1 R1 O1 r0 r1 r2 r3 p0 p1 p2 z0 z1 z2 lw
  obtain ⟨⟨r0, r1, r2, r3⟩, _⟩ := rowN4 R2.out
  obtain ⟨⟨p0, p1, p2⟩, z0, z1, z2⟩ := rowN3 O2.out
  have lw : w.heap.size + 1 < w2.heap.size := O2.out.lt
  obtain ⟨av, cv, rfl⟩ := lpown_shape hown
  cases hlo : Nt.loose n with
  | cons x l =>
    rw [hlo] at hown
    have HX : Hid (Nt.svLo n = some x) := by show _ = _; rw [Nt.svLo_yes HR.out, hlo]; rfl
    rcases hown.2 with ⟨e1, e2⟩ | ⟨g, cap, cur, e1, h2, _⟩
    · simp at e2
    injection e1 with a1 a2 a3
    subst a1
    have c0 := hown.cells (show Value.ownBlock (.slice (some ⟨g, 0, none⟩) (x :: l).length cv) = some g from rfl) 0 (.int .i64 x) (by simp [isVs])
    rw [Addr.add_lit, Nat.zero_add] at c0
    have hlen : (0 : Int) < (((x :: l).length : Nat) : Int) := by simp
    obtain ⟨L, hL⟩ : ∃ L, L = (x :: l).length := ⟨_, rfl⟩
    rw [← hL] at hlen ⊢
    clear hown h2 hlo hL a2 a3
    go_wp2_with fail
    obtain ⟨⟨x0, x1, x2⟩, _⟩ := rowN3 (OC.out x 4 _ O2.out)
    exact bodyPost_ret (v := noV none 0 0 x 4) (by simp [results, Tryz.results6, go_sem, x0, x1, x2]) rfl ⟨Or.inl ⟨x, HX.out, rfl⟩, ((B2.out.setCell (p := ⟨w.heap.size + 1, 0, none⟩) (Nat.le_succ _) _).setCell (p := ⟨w.heap.size + 1, 1, none⟩) (Nat.le_succ _) _).setCell (p := ⟨w.heap.size + 1, 2, none⟩) (Nat.le_succ _) _⟩
  | nil =>
  have HX : Hid (Nt.svLo n = none) := by show _ = _; rw [Nt.svLo_yes HR.out, hlo]; rfl
  have HHD : Hid (∀ j, j < Nt.nn n → Nt.held n j = true) := Nt.held_of _ hlo
  obtain ⟨hnn, hn1, hn2⟩ := HR.out.nn
  have HNN := Lib.hid hnn
  have hmk := nmk_num n HR.out
  obtain ⟨W3, hW3⟩ : ∃ W, W = ((w2.alloc (.cells #[.int .i64 0] 59)).alloc (.cells #[] 2)).alloc (.cells (madeCells #[.int .i64 0] (Nt.nn n)) 3) := ⟨_, rfl⟩
  have HN0 := Lib.hid (N1.start R2.out O2.out B2.out hW3)
  obtain ⟨⟨rA, _, _, _⟩, _⟩ := rowN4 (nrow_below (nrow_below R2.out (nbel_alloc w2 (.cells #[.int .i64 0] 59))) (nbel_alloc _ (.cells #[] 2)))
  obtain ⟨gc, hgc⟩ : ∃ x, x = w2.heap.size := ⟨_, rfl⟩
  obtain ⟨gb, hgb⟩ : ∃ x, x = w2.heap.size + 1 := ⟨_, rfl⟩
  obtain ⟨gn, hgn⟩ : ∃ x, x = w2.heap.size + 2 := ⟨_, rfl⟩
  rw [← hgb, ← hgn, ← hgc] at HN0
  have HW3 := Lib.hid hW3
  have HG1 := Lib.hid hgc
  have HG2 := Lib.hid hgb
  have HG3 := Lib.hid hgn
  clear hown hlo hW3 hgc hgb hgn R2 O2 B2 p0 p1 p2 z0 z1 z2 hnn
  go_wp2_with fail
  try simp only [World.size_alloc]
  rw [← HW3.out, ← HG3.out, ← HG2.out, ← HG1.out]
  clear HW3 HG1 HG2 HG3 hmk r0 r1 r2 r3 lw rA
  apply sloop1 (HN := HN0) (HAT := HA) (HRT := HR) (HNN := HNN)
  intro y7 y47 y48 y49 y50 y51 y52 y53 y54 y55 y56 y57 y58 y59 y60 y61 y62 y63 y64 y65 y66 y67 y68 W4 v4 HN4
  obtain ⟨na, nk, rfl, hT4⟩ := HN4.out.list
  have HT4 := Lib.hid hT4
  have HM12 : Hid (Nt.mm n ≤ 12) := by
    show _ ≤ _
    have q : ∀ k, (Nt.freeTo n k).length ≤ k := fun k => by
      induction k with
      | zero => simp [Nt.freeTo]
      | succ k ih => rw [Nt.freeTo, List.length_append]; split <;> simp <;> omega
    exact Nat.le_trans (q (Nt.nn n)) hn2
  obtain ⟨W5, hW5⟩ : ∃ W, W = W4.alloc (.cells #[] 28) := ⟨_, rfl⟩
  have HR5 := Lib.hid (Rw.start (m := Nt.mm n) HN4.out.rc hW5)
  obtain ⟨g5, hg5⟩ : ∃ x, x = W4.heap.size := ⟨_, rfl⟩
  rw [show (⟨W4.heap.size, 0, none⟩ : Addr) = ⟨g5, 0, none⟩ by rw [hg5]] at HR5
  have HW5 := Lib.hid hW5
  have HG5 := Lib.hid hg5
  have HZ5 : Hid (Nt.SvGood n → ∀ r, r < Nt.mm n → Nt.RhsOk n (Nt.nd n r) n.ln) := fun q => q.rhs
  clear hT4 hW5 hg5 HN0
  go_wp2_with fail
  rw [← HW5.out, ← HG5.out]
  clear HW5 HG5
  apply sloop2 (HR0 := HR5) (HT := HT4) (HAT := HA) (HRT := HR) (HM := HM12) (HZ := HZ5) (hP := fun _ _ o _ _ h => by cases o <;> exact h)
  intro y10 y11 y12 y13 y14 y15 y16 y17 y72 y73 y74 y75 y76 y77 y78 y79 y80 y81 y82 y83 y84 y85 y86 y87 y88 y89 y90 y91 y92 y93 y94 y95 y96 y97 y98 y99 y100 y101 y102 y103 y104 y105 y106 y107 y108 y109 y110 y111 y112 y113 y114 y115 y116 y117 y118 y119 y120 y121 y122 y123 y124 y125 y126 y127 y128 y129 y130 y131 y132 y133 y134 y135 y136 y137 y138 y139 y140 y141 y142 y143 y144 y145 y146 y147 y148 y149 y150 y151 y152 y153 y154 y155 y156 y157 y158 y159 y160 y161 y162 y163 y164 y165 y166 y167 y168 y169 y170 y171 y172 y173 y174 y175 y176 y177 y178 y179 y180 y181 y182 y183 y184 y185 y186 y187 y188 y189 y190 y191 y192 y193 y194 W6 v6 g c M z HZ6 HR6
  obtain ⟨gr, ra, rk, rfl, hra, hE6⟩ := HR6.out.es
  have HE6 := Lib.hid hE6
  obtain ⟨U, Z, hK, hZg, hMid⟩ := HZ6.out.plan HR.out HHD.out
  have HK6 := Lib.hid hK
  have HZG := Lib.hid hZg
  have HMI := Lib.hid hMid
  have hm12 := HM12.out
  clear hE6 hK hZg hMid HZ6 HR6 HR5 HT4 HZ5
  go_wp2_with fail
  apply sloop5 (HE := HE6) (HK := HK6) (HZ := HZG) (hra := hra) (hm := by omega) (hP := fun _ _ o _ _ h => by cases o <;> exact h)
  intro y18 y19 y20 y21 y195 y196 y197 y198 y199 y200 y201 y202 y203 y204 y205 y206 y207 y208 y209 y210 y211 y212 y213 y214 y215 y216 y217 y218 y219 y220 y221 y222 y223 y224 y225 y226 y227 y228 y229 y230 y231 y232 y233 y234 y235 y236 y237 y238 y239 y240 y241 y242 y243 y244 y245 y246 y247 y248 y249 y250 y251 y252 y253 y254 y255 y256 y257 y258 y259 y260 y261 y262 y263 y264 y265 y266 W7 M7 z7 HK7 HE7
  obtain ⟨hAR, V, Z2, hH0, hZ2, hFin⟩ := (HMI.out z7 M7 HK7.out).plan HR.out HHD.out
  have HAR := Lib.hid hAR
  have HZ2 := Lib.hid hZ2
  have HFI := Lib.hid hFin
  have HK8 := Lib.hid (hH0 (fun _ => (0, 0)))
  obtain ⟨W8, hW8⟩ : ∃ W, W = W7.alloc (.cells (madeCells #[.int .i64 0, .int .i64 0] (Nt.mm n * 2)) 46) := ⟨_, rfl⟩
  obtain ⟨gr2, hgr2, hE8, hH8⟩ := Hx.start HE7.out hW8
  have hra2 : 0 < Nt.mm n → ra = some ⟨gr2, 0, none⟩ := fun q => by rw [hgr2 q]; exact hra q
  obtain ⟨gh, hgh⟩ : ∃ x, x = W7.heap.size := ⟨_, rfl⟩
  rw [← hgh] at hH8
  have HE8 := Lib.hid hE8
  have HH8 := Lib.hid hH8
  have HW8 := Lib.hid hW8
  have HGH := Lib.hid hgh
  have hmk := smk_Frac (Nt.mm n) (by omega)
  clear hAR hZ2 hFin hH0 hE8 hH8 hW8 hgh hgr2 HMI HK7 HE7 HE6 HK6 HZG hra
  go_wp2_with fail
  rw [← HW8.out, ← HGH.out]
  clear HW8 HGH hmk
  apply sloop8 (HE := HE8) (HH := HH8) (HK := HK8) (HRM := HAR) (HZ := HZ2) (hra := hra2) (hm := by omega) (hP := fun _ _ o _ _ h => by cases o <;> exact h)
  intro y23 y24 y25 y271 y272 y273 y274 y275 y276 y277 y278 y279 y280 y281 y282 y283 y284 y285 y286 y287 y288 y289 y290 y291 y292 y293 y294 y295 y296 y297 y298 y299 y300 y301 y302 y303 y304 y305 y306 y307 y308 y309 y310 y311 y312 y313 y314 y315 y316 y317 y318 y319 y320 y321 y322 y323 y324 y325 y326 y327 W9 h9 z9 s9 HK9 hs9 HE9 HH9
  have HF9 := Lib.hid (HFI.out s9 z9 h9 HK9.out hs9)
  clear HFI HK9 hs9 HE8 HH8 HK8 HAR HZ2 hra2
  have l0 : W9.cell? ⟨gc, 0, none⟩ = some (.int .i64 z9) := HE9.out.rc.cell (i := 0) (by omega)
  rcases HF9.out with ⟨e9, _⟩ | ⟨e9, hbad⟩
  case inr =>
    subst e9
    have HBAD := Lib.hid hbad
    obtain ⟨hres, hold⟩ := HN4.out.past HE9.out.fr
    have O9 := Lib.hid hres
    have B9 := Lib.hid hold
    obtain ⟨⟨p0, p1, p2⟩, z0, z1, z2⟩ := rowN3 O9.out
    have lw : w.heap.size + 1 < W9.heap.size := O9.out.lt
    clear hbad hres hold HF9
    go_wp2_with fail
    obtain ⟨⟨x0, x1, x2⟩, _⟩ := rowN3 (OC.out 0 5 _ O9.out)
    have e5 : Nt.svAll n = 5 := by rw [Nt.svAll_yes HR.out, Nt.svCode_no HBAD.out]
    exact bodyPost_ret (v := noV none 0 0 0 5) (by simp [results, Tryz.results6, go_sem, x0, x1, x2]) rfl ⟨Or.inr ⟨HX.out, Or.inr ⟨by rw [e5]; decide, by rw [e5]⟩⟩, ((B9.out.setCell (p := ⟨w.heap.size + 1, 0, none⟩) (Nat.le_succ _) _).setCell (p := ⟨w.heap.size + 1, 1, none⟩) (Nat.le_succ _) _).setCell (p := ⟨w.heap.size + 1, 2, none⟩) (Nat.le_succ _) _⟩
  subst e9
  obtain ⟨hgood, hheads⟩ := HF9.out.heads
  have HGD := Lib.hid hgood
  have HHE := Lib.hid hheads
  obtain ⟨W10, hW10⟩ : ∃ W, W = W9.alloc (.cells #[.slice none 0 0, .int .i64 0, .int .i64 0] 30) := ⟨_, rfl⟩
  have HO10 := Lib.hid (Ou.start (f := Nt.svH n) HN4.out HE9.out HH9.out.blk hW10)
  obtain ⟨go, hgo⟩ : ∃ x, x = W9.heap.size := ⟨_, rfl⟩
  rw [← hgo] at HO10
  have HW10 := Lib.hid hW10
  have HGO := Lib.hid hgo
  clear hgood hheads hW10 hgo HF9 HE9 HH9
  go_wp2_with fail
  rw [← HW10.out, ← HGO.out]
  clear HW10 HGO l0
  apply sloop10 (HO := HO10) (HAT := HA) (HRT := HR) (HNN := HNN) (hN := by omega) (HNO := HHE) (hP := fun _ _ o _ _ h => by cases o <;> exact h)
  intro y27 y339 y340 y341 y342 y343 y344 y345 y346 y347 y348 y349 y350 y351 y352 y353 y354 y355 y356 y357 y358 y359 y360 y361 y362 y363 y364 y365 y366 y367 y368 y369 y370 y371 y372 y373 y374 y375 W11 va vk HO11
  clear HO10
  obtain ⟨⟨q0, q1, q2⟩, _⟩ := rowN3 HO11.out.s.ro
  obtain ⟨⟨p0, p1, p2⟩, z0, z1, z2⟩ := rowN3 HO11.out.s.res
  have lw : w.heap.size + 1 < W11.heap.size := HO11.out.s.res.lt
  obtain ⟨a9, c9, e9, q⟩ := fr_own HO11.out.s.own
  cases e9
  rcases q with q | ⟨g9, rfl, hg9, hblk⟩
  · exact absurd q.2.1 (by omega)
  have HBK := Lib.hid hblk
  have HG9 : Hid (w.heap.size ≤ g9 ∧ g9 ≠ w.heap.size + 1) := by
    show _ ∧ _
    have := HO11.out.s.num
    omega
  clear hblk hg9
  go_wp2_with fail
  obtain ⟨⟨x0, x1, x2⟩, _⟩ := rowN3 (rowN_put (rowN_put (rowN_put HO11.out.s.res 0 (.slice (some ⟨g9, 0, none⟩) (Nt.nn n) vk) (by simp)) 1 (.int .i64 0) (by simp)) 2 (.int .i64 0) (by simp))
  refine bodyPost_ret (v := noV (some ⟨g9, 0, none⟩) (Nt.nn n) vk 0 0) (by simp [results, Tryz.results6, go_sem, x0, x1, x2]) rfl ⟨Or.inr ⟨HX.out, Or.inl ⟨by rw [Nt.svAll_yes HR.out, Nt.svCode_ok HGD.out], g9, vk, rfl, HG9.out.1, HBK.out.block ?_⟩⟩, ((HO11.out.s.old.setCell (p := ⟨w.heap.size + 1, 0, none⟩) (Nat.le_succ _) _).setCell (p := ⟨w.heap.size + 1, 1, none⟩) (Nat.le_succ _) _).setCell (p := ⟨w.heap.size + 1, 2, none⟩) (Nat.le_succ _) _⟩
  exact (Below.heap_setCell _ ⟨w.heap.size + 1, 2, none⟩ _ _ HG9.out.2).trans ((Below.heap_setCell _ ⟨w.heap.size + 1, 1, none⟩ _ _ HG9.out.2).trans (Below.heap_setCell _ ⟨w.heap.size + 1, 0, none⟩ _ _ HG9.out.2))
end Go.Proofs.YtojlclnlompobaaGreatDoor
namespace Go.Proofs.YtojlclnlompobaaGreatDoor
open Go.RowKit Go.Deep

/-- A function that answers a net so. -/
def AnsSv (fn : Nat) (n : Nt.Net) (av code : Int) (M : Nat) (f : Nat → Int) : Prop :=
  ∀ (la : Option Addr) (lk : Nat) (fa : Option Addr) (fk : Nat) (wa : Option Addr) (wk : Nat) (w : World), NtAt n la fa wa w → NEt w → Calls Tryz.prog fn #[ntV n la lk fa fk wa wk] w fun e w' => (∃ a k, e = .returned (noV a M k av code) ∧ LsOwn 46 2 w.heap.size M a k f w') ∧ Below w.heap.size w w'
theorem ansS_of (n : Nt.Net) : ∃ (av code : Int) (M : Nat) (f : Nat → Int), M ≤ 1048576 ∧ ∀ B e w, ToldL B (Nt.svLo n) (Nt.svAll n) (Nt.nn n) (Nt.cells2 (Nt.svH n)) e w → ∃ a k, e = .returned (noV a M k av code) ∧ LsOwn 46 2 B M a k f w := by
  cases hl : Nt.svLo n with
  | some c =>
    refine ⟨c, 4, 0, fun _ => 0, by omega, fun B e w h => ?_⟩
    rcases h with ⟨c', e1, e2⟩ | ⟨e1, _⟩
    · cases e1
      exact ⟨none, 0, e2, Or.inl ⟨rfl, rfl, rfl⟩⟩
    · cases e1
  | none =>
    by_cases hz : Nt.svAll n = 0
    · have hr : Nt.Right n := by
        by_cases q : Nt.Right n
        · exact q
        · rw [Nt.svAll_no q] at hz; omega
      have hn := hr.nn
      refine ⟨0, 0, Nt.nn n, Nt.cells2 (Nt.svH n), by omega, fun B e w h => ?_⟩
      rcases h with ⟨c', e1, _⟩ | ⟨_, ⟨_, g, k, e2, h1, h2⟩ | ⟨q, _⟩⟩
      · cases e1
      · exact ⟨_, k, e2, Or.inr ⟨g, rfl, h1, h2⟩⟩
      · exact absurd hz q
    · refine ⟨0, Nt.svAll n, 0, fun _ => 0, by omega, fun B e w h => ?_⟩
      rcases h with ⟨c', e1, _⟩ | ⟨_, ⟨q, _⟩ | ⟨_, e2⟩⟩
      · cases e1
      · exact absurd q hz
      · exact ⟨none, 0, e2, Or.inl ⟨rfl, rfl, rfl⟩⟩
theorem ansS_both (n : Nt.Net) (hs : NtSmall n) : ∃ (av code : Int) (M : Nat) (f : Nat → Int), M ≤ 1048576 ∧ AnsSv 6 n av code M f ∧ AnsSv 8 n av code M f := by
  obtain ⟨av, code, M, f, hM, h⟩ := ansS_of n
  refine ⟨av, code, M, f, hM, fun la lk fa fk wa wk w h1 h2 => ?_, fun la lk fa fk wa wk w h1 h2 => ?_⟩
  · exact (specSolve_any n la lk fa fk wa wk w h1 hs).mono (fun e w' q => ⟨h _ _ _ q.1, q.2⟩)
  · exact (implNetSolve_any n la lk fa fk wa wk w h1 hs h2).mono (fun e w' q => ⟨h _ _ _ q.1, q.2⟩)
/-- What stands in this law behind the program's call. -/
structure NSf (w : World) (n : Nt.Net) (la : Option Addr) (lk : Nat) (fa : Option Addr) (fk : Nat) (wa : Option Addr) (wk : Nat) (X6 X7 X9 gl gf gw Y M : Nat) (a0 : Option Addr) (c0 : Nat) (b : Option Addr) (c : Nat) (av code : Int) (f g : Nat → Int) (W : World) : Prop where
  ra : W.rowIs w.heap.size 26 4 (rowN (ntL n la lk fa fk wa wk))
  r6 : W.rowIs X6 30 3 (rowN (noL a0 M c0 av code))
  r7 : W.rowIs X7 35 4 (rowN (ntL n (some ⟨gl, 0, none⟩) n.ln (some ⟨gf, 0, none⟩) n.fn (some ⟨gw, 0, none⟩) n.wn))
  r9 : W.rowIs X9 30 3 (rowN (noL b M c av code))
  kx : NtBlk n (X6 + 1) gl gf gw W
  old : Below w.heap.size w W
  l0 : LsOwn 46 2 w.heap.size M a0 c0 f W
  l1 : LsOwn 46 2 Y M b c g W
/-- Where all that lies. -/
structure NSn (w : World) (X6 X7 X9 gl gf gw Y : Nat) (a0 b : Option Addr) : Prop where
  o6 : w.heap.size < X6
  oa : ∀ k, a0 = some ⟨k, 0, none⟩ → k < X6
  ol : (X6 < gl ∧ X6 < gf ∧ X6 < gw) ∧ (gl < X7 ∧ gf < X7 ∧ gw < X7)
  oh : X7 < Y ∧ Y ≤ X9
  ob : ∀ k, b = some ⟨k, 0, none⟩ → Y ≤ k ∧ k < X9
theorem NSf.below {w : World} {n : Nt.Net} {la : Option Addr} {lk : Nat} {fa : Option Addr} {fk : Nat} {wa : Option Addr} {wk X6 X7 X9 gl gf gw Y M : Nat} {a0 : Option Addr} {c0 : Nat} {b : Option Addr} {c : Nat} {av code : Int} {f g : Nat → Int} {W W' : World} (h : NSf w n la lk fa fk wa wk X6 X7 X9 gl gf gw Y M a0 c0 b c av code f g W) (hb : Below W.heap.size W W') : NSf w n la lk fa fk wa wk X6 X7 X9 gl gf gw Y M a0 c0 b c av code f g W' :=
  ⟨nrow_below h.ra hb, nrow_below h.r6 hb, nrow_below h.r7 hb, nrow_below h.r9 hb, h.kx.below hb, h.old.trans (hb.mono h.old.size), h.l0.below hb, h.l1.below hb⟩
/-- What is left of it where the program's own arguments were marked. -/
structure NSg (w : World) (n : Nt.Net) (la : Option Addr) (lk : Nat) (fa : Option Addr) (fk : Nat) (wa : Option Addr) (wk X6 X9 Y M : Nat) (a0 : Option Addr) (c0 : Nat) (b : Option Addr) (c : Nat) (av code : Int) (f g : Nat → Int) (W : World) : Prop where
  ra : W.rowIs w.heap.size 26 4 (rowN (ntL n la lk fa fk wa wk))
  r6 : W.rowIs X6 30 3 (rowN (noL a0 M c0 av code))
  r9 : W.rowIs X9 30 3 (rowN (noL b M c av code))
  old : Below w.heap.size w W
  l0 : LsOwn 46 2 w.heap.size M a0 c0 f W
  l1 : LsOwn 46 2 Y M b c g W
theorem NSg.below {w : World} {n : Nt.Net} {la : Option Addr} {lk : Nat} {fa : Option Addr} {fk : Nat} {wa : Option Addr} {wk X6 X9 Y M : Nat} {a0 : Option Addr} {c0 : Nat} {b : Option Addr} {c : Nat} {av code : Int} {f g : Nat → Int} {W W' : World} (h : NSg w n la lk fa fk wa wk X6 X9 Y M a0 c0 b c av code f g W) (hb : Below W.heap.size W W') : NSg w n la lk fa fk wa wk X6 X9 Y M a0 c0 b c av code f g W' :=
  ⟨nrow_below h.ra hb, nrow_below h.r6 hb, nrow_below h.r9 hb, h.old.trans (hb.mono h.old.size), h.l0.below hb, h.l1.below hb⟩
theorem LsOwn.keep {T : TypeId} {s B N c : Nat} {a : Option Addr} {f : Nat → Int} {W W' : World} (h : LsOwn T s B N a c f W) (hb : ∀ k, a = some ⟨k, 0, none⟩ → k < W.heap.size → W'.heap[k]? = W.heap[k]?) : LsOwn T s B N a c f W' := by
  rcases h with h | ⟨g, e, h1, h2⟩
  · exact Or.inl h
  · exact Or.inr ⟨g, e, h1, h2.block (hb g e h2.lt)⟩
set_option maxRecDepth 100000 in
set_option maxHeartbeats 16000000 in
theorem netSolve_law (w : World) (n : Nt.Net) (la : Option Addr) (lk : Nat) (fa : Option Addr) (fk : Nat) (wa : Option Addr) (wk : Nat) (h : NtIn n la fa wa w) (hl : NtLens n) (hg : NEt w) :
    Calls Tryz.prog 3 #[ntV n la lk fa fk wa wk] w fun e w' => e = .returned (.bool true) ∧ Below w.heap.size w w' := by
  have H := Lib.hid h
  have HG := Lib.hid hg
  obtain ⟨W, hW⟩ : ∃ W, W = w.alloc (.cells #[.int .i64 n.nodes, .slice la n.ln lk, .slice fa n.fn fk, .slice wa n.wn wk] 26) := ⟨_, rfl⟩
  have R0 : Hid (W.rowIs w.heap.size 26 4 (rowN (ntL n la lk fa fk wa wk))) := by rw [hW]; exact rowN_alloc w _ _
  have B0 : Hid (Below w.heap.size w W) := by rw [hW]; exact nbel_alloc _ _
  have HW := Lib.hid hW
  clear h hg hW
  go_enter Tryz.func3, Tryz.ntmps3
  go_wp2_with fail
  rw [← HW.out]
  refine (szNet_any n la lk fa fk wa wk _ hl.1 hl.2.1 hl.2.2).mono ?_
  rintro e w1 ⟨⟨z, rfl, hz⟩, hb⟩
  have R1 := Lib.hid (nrow_below R0.out hb)
  have B1 : Hid (Below w.heap.size w w1) := B0.out.trans (hb.mono B0.out.size)
  clear hb R0 B0
  rcases hz with hz | ⟨hz, hs⟩
  · go_wp2_with fail
    go_ret
    exact ⟨rfl, B1.out⟩
  have HS := Lib.hid hs
  have hz0 : ¬ z < 0 := by omega
  obtain ⟨Zn, rfl⟩ : ∃ Zn : Nat, z = (Zn : Int) := ⟨z.toNat, by omega⟩
  obtain ⟨av, code, M, F, hM, hSP, hIM⟩ := ansS_both n HS.out
  have HSP := Lib.hid hSP
  have HIM := Lib.hid hIM
  clear hs hz hSP hIM
  obtain ⟨⟨r0, r1, r2, r3⟩, _⟩ := rowN4 R1.out
  go_wp2_with fail
  refine (toNet_any n la lk fa fk wa wk _ (H.out.below B1.out) HS.out).mono ?_
  rintro e w3 ⟨⟨gl, gf, gw, rfl, hk3⟩, hb⟩
  have R3 := Lib.hid (nrow_below R1.out hb)
  have B3 : Hid (Below w.heap.size w w3) := B1.out.trans (hb.mono B1.out.size)
  have K3 := Lib.hid hk3
  clear hb hk3 R1 B1 r0 r1 r2 r3
  go_wp2_with fail
  refine (HSP.out _ _ _ _ _ _ _ K3.out.at_ (HG.out.below B3.out)).mono ?_
  rintro e w5 ⟨⟨a0, c0, rfl, hL⟩, hb⟩
  obtain ⟨W6, hW6⟩ : ∃ W6, W6 = w5.alloc (.cells #[.slice a0 M c0, .int .i64 av, .int .i64 code] 30) := ⟨_, rfl⟩
  have q6 := hb.trans ((nbel_alloc w5 (.cells #[.slice a0 M c0, .int .i64 av, .int .i64 code] 30)).mono hb.size)
  rw [← hW6] at q6
  have R6 := Lib.hid (nrow_below R3.out q6)
  have B6 : Hid (Below w.heap.size w W6) := B3.out.trans (q6.mono B3.out.size)
  have P6 : Hid (W6.rowIs w5.heap.size 30 3 (rowN (noL a0 M c0 av code))) := by rw [hW6]; exact rowN_alloc w5 _ _
  have L6 : Hid (LsOwn 46 2 w.heap.size M a0 c0 F W6) := by rw [hW6]; exact (hL.low B3.out.size).below (nbel_alloc _ _)
  have OA : Hid (∀ k, a0 = some ⟨k, 0, none⟩ → k < w5.heap.size) := fun k e => (hL.lt e).2
  have O6 : Hid (w.heap.size < w5.heap.size ∧ W6.heap.size = w5.heap.size + 1) := by
    have h1 := R3.out.lt
    have h2 := hb.size
    exact ⟨by omega, by rw [hW6]; simp⟩
  have HW6 := Lib.hid hW6
  obtain ⟨⟨r0, r1, r2, r3⟩, _⟩ := rowN4 (nrow_below R3.out hb)
  have lw5 : w.heap.size < w5.heap.size := (nrow_below R3.out hb).lt
  clear hW6 hb hL q6 R3 B3 K3
  go_wp2_with fail
  rw [← HW6.out]
  clear lw5 r0 r1 r2 r3
  generalize w5.heap.size = X6 at *
  refine (toNet_any n la lk fa fk wa wk _ (H.out.below B6.out) HS.out).mono ?_
  rintro e w7 ⟨⟨gl, gf, gw, rfl, hk7⟩, hb⟩
  obtain ⟨W7, hW7⟩ : ∃ W7, W7 = w7.alloc (.cells #[.int .i64 n.nodes, .slice (some ⟨gl, 0, none⟩) n.ln n.ln, .slice (some ⟨gf, 0, none⟩) n.fn n.fn, .slice (some ⟨gw, 0, none⟩) n.wn n.wn] 35) := ⟨_, rfl⟩
  have q7 := hb.trans ((nbel_alloc w7 (.cells #[.int .i64 n.nodes, .slice (some ⟨gl, 0, none⟩) n.ln n.ln, .slice (some ⟨gf, 0, none⟩) n.fn n.fn, .slice (some ⟨gw, 0, none⟩) n.wn n.wn] 35)).mono hb.size)
  rw [← hW7] at q7
  have R7 := Lib.hid (nrow_below R6.out q7)
  have B7 : Hid (Below w.heap.size w W7) := B6.out.trans (q7.mono B6.out.size)
  have P7 := Lib.hid (nrow_below P6.out q7)
  have L7 := Lib.hid (L6.out.below q7)
  have Q7 : Hid (W7.rowIs w7.heap.size 35 4 (rowN (ntL n (some ⟨gl, 0, none⟩) n.ln (some ⟨gf, 0, none⟩) n.fn (some ⟨gw, 0, none⟩) n.wn))) := by rw [hW7]; exact rowN_alloc w7 _ _
  have K7 : Hid (NtBlk n (X6 + 1) gl gf gw W7) := by
    have := O6.out.2
    rw [this] at hk7
    rw [hW7]; exact hk7.below (nbel_alloc _ _)
  have OL : Hid ((X6 < gl ∧ X6 < gf ∧ X6 < gw) ∧ (gl < w7.heap.size ∧ gf < w7.heap.size ∧ gw < w7.heap.size)) := by
    have h1 := hk7.lo
    have h2 := O6.out.2
    exact ⟨by omega, hk7.l.lt, hk7.f.lt, hk7.w.lt⟩
  have O7 : Hid (W7.heap.size = w7.heap.size + 1) := by show _ = _; rw [hW7]; simp
  have HW7 := Lib.hid hW7
  clear hW7 hb hk7 q7 R6 B6 P6 L6
  go_wp2_with fail
  rw [← HW7.out]
  generalize w7.heap.size = X7 at *
  obtain ⟨⟨r0, r1, r2, r3⟩, _⟩ := rowN4 Q7.out
  refine (HIM.out _ _ _ _ _ _ _ K7.out.at_ (HG.out.below B7.out)).mono ?_
  rintro e w9 ⟨⟨b, c, rfl, hL⟩, hb⟩
  obtain ⟨W9, hW9⟩ : ∃ W9, W9 = w9.alloc (.cells #[.slice b M c, .int .i64 av, .int .i64 code] 30) := ⟨_, rfl⟩
  have q9 := hb.trans ((nbel_alloc w9 (.cells #[.slice b M c, .int .i64 av, .int .i64 code] 30)).mono hb.size)
  rw [← hW9] at q9
  have S9 : Hid (NSf w n la lk fa fk wa wk X6 X7 w9.heap.size gl gf gw W7.heap.size M a0 c0 b c av code F F W9) :=
    ⟨nrow_below R7.out q9, nrow_below P7.out q9, nrow_below Q7.out q9, by rw [hW9]; exact rowN_alloc w9 _ _, K7.out.below q9, B7.out.trans (q9.mono B7.out.size), L7.out.below q9, by rw [hW9]; exact hL.below (nbel_alloc _ _)⟩
  have NN : Hid (NSn w X6 X7 w9.heap.size gl gf gw W7.heap.size a0 b) := ⟨O6.out.1, OA.out, OL.out, ⟨by have := O7.out; omega, hb.size⟩, fun k e => hL.lt e⟩
  have HW9 := Lib.hid hW9
  obtain ⟨⟨y0, y1, y2⟩, _⟩ := rowN3 (nrow_below P7.out hb)
  have ly : X6 < w9.heap.size := (nrow_below P7.out hb).lt
  clear hW9 hb hL q9 R7 B7 P7 L7 Q7 K7 r0 r1 r2 r3 O6 OA OL O7
  go_wp2_with fail
  rw [← HW9.out]
  generalize w9.heap.size = X9 at *
  generalize W7.heap.size = Y at *
  refine (eqNetOut_same _ _ _ _ _ _ _ F _ S9.out.l1.at_ S9.out.l0.at_ hM).mono ?_
  rintro e w10 ⟨rfl, hb⟩
  have S10 := Lib.hid (S9.out.below hb)
  clear hb S9 y0 y1 y2 ly
  go_wp2_with fail
  refine wp_region_held_drew (S := NSf w n la lk fa fk wa wk X6 X7 X9 gl gf gw Y M a0 c0 b c av code F F) (by kernel_rfl) (S10.out.below (Below.refl _ _).drew) (fun hHeld => ?_)
  clear S10
  refine take_do (i := 0) (v := (ntV n (some ⟨gl, 0, none⟩) n.ln (some ⟨gf, 0, none⟩) n.fn (some ⟨gw, 0, none⟩) n.wn)) rfl (by kernel_rfl) (by kernel_rfl) (by kernel_rfl) (fun _ _ _ h => h) (by rfl) ?_ (by assumption) ?_
  · intro w hSw
    obtain ⟨⟨a0, a1, a2, a3⟩, _⟩ := rowN4 hSw.r7
    go_simp
  simp only [Act.put, List.setIfInBounds_toArray, List.set_cons_zero, List.set_cons_succ]
  refine take_do (i := 1) (v := (ntV n la lk fa fk wa wk)) rfl (by kernel_rfl) (by kernel_rfl) (by kernel_rfl) (fun _ _ _ h => h) (by rfl) ?_ (by assumption) ?_
  · intro w hSw
    obtain ⟨⟨a0, a1, a2, a3⟩, _⟩ := rowN4 hSw.ra
    go_simp
  simp only [Act.put, List.setIfInBounds_toArray, List.set_cons_zero, List.set_cons_succ]
  refine take_call (i := 2) rfl (by kernel_rfl) (fun K2 hK => ?_)
  go_simp
  refine (toNet_any n la lk fa fk wa wk _ (H.out.below hHeld.old) HS.out).mono ?_
  rintro e v6 ⟨⟨gl3, gf3, gw3, rfl, hk6⟩, hb6⟩
  have HK6 := Lib.hid hk6
  go_wp2_with fail
  refine hK.out _ _ (hHeld.below hb6) (fun hHeld2 => ?_)
  clear hK hHeld hb6 hk6
  refine take_call (i := 3) rfl (by kernel_rfl) (fun K2 hK => ?_)
  go_simp
  refine (eqNet_same n _ _ _ _ _ _ _ _ _ _ _ _ _ hHeld2.kx.at_ HK6.out.at_ HS.out).mono ?_
  rintro e v7 ⟨rfl, hb7⟩
  go_wp2_with fail
  refine hK.out _ _ (hHeld2.below hb7) (fun hHeld => ?_)
  clear hK hHeld2 hb7
  refine take_do (i := 4) (v := (.bool false)) rfl (by kernel_rfl) (by kernel_rfl) (by kernel_rfl) (fun _ _ _ h => h) (by rfl) ?_ (by assumption) ?_
  · intro w hSw
    go_simp
  simp only [Act.put, List.setIfInBounds_toArray, List.set_cons_zero, List.set_cons_succ]
  refine wpAnyH_done (by kernel_rfl) ?_ _
  have S11 := Lib.hid hHeld
  clear hHeld HK6
  obtain ⟨⟨r0, r1, r2, r3⟩, _⟩ := rowN4 S11.out.r7
  go_wp2_with fail
  refine (markNet_any n (X6 + 1) gl gf gw n.ln n.fn n.wn _ S11.out.kx HS.out).mono ?_
  rintro e w14 ⟨⟨Mk, rfl, hMk⟩, ho⟩
  clear r0 r1 r2 r3
  have nn := NN.out
  have G14 : Hid (NSg w n la lk fa fk wa wk X6 X9 Y M a0 c0 b c av code F F w14) := by
    have s := S11.out
    obtain ⟨n6, na, nl, nh, nb⟩ := nn
    refine ⟨s.ra.of_block (ho.block _ s.ra.lt (by omega) (by omega) (by omega)), s.r6.of_block (ho.block _ s.r6.lt (by omega) (by omega) (by omega)), s.r9.of_block (ho.block _ s.r9.lt (by omega) (by omega) (by omega)), s.old.trans ⟨ho.os, ho.tape, ho.output, ho.size, fun k hk => ho.block k (by have := s.old.size; omega) (by omega) (by omega) (by omega)⟩, s.l0.keep (fun k e hk => ho.block k hk (by have := na k e; omega) (by have := na k e; omega) (by have := na k e; omega)), s.l1.keep (fun k e hk => ho.block k hk (by have := nb k e; omega) (by have := nb k e; omega) (by have := nb k e; omega))⟩
  clear ho S11
  obtain ⟨Mq, hMq⟩ : ∃ Mq : Nat, Mq = Mk := ⟨_, rfl⟩
  rw [← hMq]
  have hMz : ¬ (Mq : Int) < 0 := by omega
  clear hMq hMk
  obtain ⟨⟨x0, x1, x2⟩, _⟩ := rowN3 G14.out.r9
  obtain ⟨⟨y0, y1, y2⟩, _⟩ := rowN3 G14.out.r6
  go_wp2_with fail
  refine (eqNetOut_same _ _ _ _ _ _ _ F _ G14.out.l1.at_ G14.out.l0.at_ hM).mono ?_
  rintro e w16 ⟨rfl, hb⟩
  have G16 := Lib.hid (G14.out.below hb)
  clear hb G14 x0 x1 x2 y0 y1 y2
  obtain ⟨⟨x0, x1, x2⟩, _⟩ := rowN3 G16.out.r9
  go_wp2_with fail
  refine (markNetOut_any _ _ _ _ _ _ F _ G16.out.l1 hM).mono ?_
  rintro e w17 ⟨rfl, hmk, hc, hc2⟩
  clear x0 x1 x2
  have G17 : Hid (NSg w n la lk fa fk wa wk X6 X9 Y M a0 c0 b c av code F (mk1 1) w17) := by
    have s := G16.out
    obtain ⟨n6, na, nl, nh, nb⟩ := nn
    refine ⟨s.ra.of_block (hc _ s.ra.lt (fun e => by have := nb _ e; omega)), s.r6.of_block (hc _ s.r6.lt (fun e => by have := nb _ e; omega)), s.r9.of_block (hc _ s.r9.lt (fun e => by have := nb _ e; omega)), s.old.trans ⟨hc2.1, hc2.2.1, hc2.2.2.1, hc2.2.2.2, fun k hk => hc k (by have := s.old.size; omega) (fun e => by have := nb _ e; omega)⟩, s.l0.keep (fun k e hk => hc k hk (fun e2 => by have := nb _ e2; have := na k e; omega)), hmk⟩
  clear hmk hc hc2 G16
  obtain ⟨Q, hQ⟩ : ∃ Q : Nat, Q = 1 + M * 2 := ⟨_, rfl⟩
  have HQ : Hid (1 + M * 2 = Q) := hQ.symm
  rw [← hQ]
  have hQ0 : ¬ (Q : Int) < 0 := by omega
  clear hQ
  obtain ⟨⟨x0, x1, x2⟩, _⟩ := rowN3 G17.out.r9
  go_wp2_with fail
  refine (heldNetOut_any _ _ _ _ _ _ _ G17.out.l1 hM).mono ?_
  rintro e w18 ⟨rfl, hb⟩
  rw [HQ.out]
  have G18 := Lib.hid (G17.out.below hb)
  clear hb G17 x0 x1 x2
  obtain ⟨⟨r0, r1, r2, r3⟩, _⟩ := rowN4 G18.out.ra
  go_wp2_with fail
  refine (toNet_any n la lk fa fk wa wk _ (H.out.below G18.out.old) HS.out).mono ?_
  rintro e w19 ⟨⟨gl4, gf4, gw4, rfl, hk19⟩, hb⟩
  have G19 := Lib.hid (G18.out.below hb)
  have K19 := Lib.hid hk19
  clear hb hk19 G18 r0 r1 r2 r3
  go_wp2_with fail
  refine (HIM.out _ _ _ _ _ _ _ K19.out.at_ (HG.out.below G19.out.old)).mono ?_
  rintro e w21 ⟨⟨b2, c2, rfl, hL⟩, hb⟩
  obtain ⟨WA, hWA⟩ : ∃ WA, WA = w21.alloc (.cells #[.slice b2 M c2, .int .i64 av, .int .i64 code] 30) := ⟨_, rfl⟩
  have qA := hb.trans ((nbel_alloc w21 (.cells #[.slice b2 M c2, .int .i64 av, .int .i64 code] 30)).mono hb.size)
  rw [← hWA] at qA
  have G22 := Lib.hid (G19.out.below qA)
  have RX : Hid (WA.rowIs w21.heap.size 30 3 (rowN (noL b2 M c2 av code))) := by rw [hWA]; exact rowN_alloc w21 _ _
  have L22 : Hid (LsOwn 46 2 w19.heap.size M b2 c2 F WA) := by rw [hWA]; exact hL.below (nbel_alloc _ _)
  have HWA := Lib.hid hWA
  obtain ⟨⟨y0, y1, y2⟩, _⟩ := rowN3 (nrow_below G19.out.r6 hb)
  have ly : X6 < w21.heap.size := (nrow_below G19.out.r6 hb).lt
  clear hWA hb hL qA G19 K19
  go_wp2_with fail
  rw [← HWA.out]
  refine (eqNetOut_same _ _ _ _ _ _ _ F _ L22.out.at_ G22.out.l0.at_ hM).mono ?_
  rintro e w23 ⟨rfl, hb⟩
  have G23 := Lib.hid (G22.out.below hb)
  clear hb G22 y0 y1 y2 ly RX L22
  obtain ⟨⟨x0, x1, x2⟩, _⟩ := rowN3 G23.out.r9
  go_wp2_with fail
  refine (heldNetOut_any _ _ _ _ _ _ _ G23.out.l1 hM).mono ?_
  rintro e w24 ⟨rfl, hb⟩
  rw [HQ.out]
  have G24 := Lib.hid (G23.out.below hb)
  clear hb G23 x0 x1 x2
  go_wp2_with fail
  go_ret
  exact ⟨rfl, G24.out.old⟩
end Go.Proofs.YtojlclnlompobaaGreatDoor
