/-
  What is drawn for the laws of renewals.
-/
import Derived.Test.YtbkpedcabbppbaaDoorRnDr
import Derived.Test.YtbkpedcabbppbaaDoorRnT5
namespace Go.Proofs.YtbkpedcabbppbaaDoor
open Go Go.RowKit Go.Deep

theorem four_at {W : World} {g : Nat} {a b c d : Int} (h : W.rowIs g 2 4 (rowN [.int .i64 a, .int .i64 b, .int .i64 c, .int .i64 d])) {q : Nat} (hq : q < 4) : ∃ x, W.cell? ⟨g, q, none⟩ = some (.int .i64 x) := by
  have := h.cell (i := q) hq
  match q, hq with
  | 0, _ => exact ⟨a, this⟩
  | 1, _ => exact ⟨b, this⟩
  | 2, _ => exact ⟨c, this⟩
  | 3, _ => exact ⟨d, this⟩
/-- A list in memory that was drawn: it stays whatever else is drawn. -/
theorem isat_drew {a : Option Addr} {N : Nat} {f : Nat → Int} {sb : Nat} {w w' : World} (h : IsAt a N f w) (hne : ∀ o, a = some o → o.block ≠ sb) (hc : Chg sb w w') : IsAt a N f w' := h.same (fun b e hl => hc.2.2.2.2 b hl (hne _ e))
theorem al_at {w : World} {sb : Nat} {v : Value} {n : Nat} {F : Nat → Int} {W : World} (h : AL w sb v n F W) : ∃ g c, v = .slice (some ⟨g, 0, none⟩) n c ∧ IsAt (some ⟨g, 0, none⟩) (n * 2) F W ∧ w.heap.size ≤ g := by
  have q : W.ownsRow w.heap.size 53 2 v (List.range n).length (Rn.asVs F (List.range n)) := by rw [List.length_range]; exact h.1
  obtain ⟨a, c, e, h1, h2⟩ := ras_own q
  rw [List.length_range] at e h1
  rcases h.1.2 with q | ⟨g, cap, cur, e1, e2, _⟩
  · exact absurd q.1 h.2.2.2
  · rw [e] at e1
    injection e1 with e1 _ _
    subst e1
    exact ⟨g, c, e, risat_congr h1 (fun j hj => (Rn.sub_range F hj).symm), e2⟩
theorem dl_at {w : World} {sb : Nat} {v : Value} {zs : List Int} {W : World} (h : DL w sb v zs W) : ∃ a c, v = .slice a zs.length c ∧ IsAt a zs.length (fun j => zs.getD j 0) W ∧ (∀ o, a = some o → w.heap.size ≤ o.block) ∧ (a = none → zs.length = 0 ∧ c = 0) := by
  rcases h.1.2 with q | ⟨g, cap, cur, e1, e2, e3, e4, e5, e6, e7⟩
  · exact ⟨none, 0, by rw [q.1, q.2], Or.inl q.2, (fun o e => by cases e), fun _ => ⟨q.2, rfl⟩⟩
  · refine ⟨some ⟨g, 0, none⟩, cap, e1, Or.inr ⟨g, rfl, fun j hj => ?_⟩, (fun o e => by cases e; exact e2), (fun e => by cases e)⟩
    have h1 : (cur.toList.take (zs.length * 1))[j]? = (zs.map (Value.int .i64))[j]? := by rw [e7]
    rw [List.getElem?_take, if_pos (by omega), Array.getElem?_toList] at h1
    rw [show (zs.map (Value.int .i64))[j]? = some (.int .i64 (zs.getD j 0)) by simp [List.getElem?_eq_getElem hj]] at h1
    simp [World.cell?, e3, h1]
set_option maxRecDepth 100000 in
set_option maxHeartbeats 2000000 in
theorem dbudget_any (sb : Nat) (w : World) (h : Src sb w) :
    Calls Tryd.prog 41 #[.pointer (some ⟨sb, 0, none⟩)] w fun e w' => (∃ z, e = .returned (.int .i64 z)) ∧ Drew sb w w' := by
  have H := Lib.hid h
  clear h
  go_enter Tryd.func41, Tryd.ntmps41
  go_wp2_with fail
  refine (one_any sb 20 _ H.out (by omega)).mono ?_
  rintro e w1 ⟨⟨bb, rfl⟩, hD⟩
  have HD := Lib.hid hD
  have HL : Hid (sb < w1.heap.size) := hD.1.lt
  clear hD
  cases bb with
  | false =>
    go_wp2_with fail
    refine (n_any sb 50 _ HD.out.1 (by omega)).mono ?_
    rintro e w2 ⟨⟨x, rfl, _, _, _⟩, hD⟩
    have HD2 : Hid (Drew sb w w2) := ⟨hD.1, HD.out.2.trans hD.2⟩
    clear hD HD
    go_wp2_with fail
    go_ret
    exact ⟨⟨_, rfl⟩, HD2.out⟩
  | true =>
    obtain ⟨U, hU⟩ : ∃ U, U = w1.alloc (.cells #[.int .i64 (-1), .int .i64 0, .int .i64 300, .int .i64 301] 2) := ⟨_, rfl⟩
    have hb : Below w1.heap.size w1 U := by rw [hU]; exact nbel_alloc _ _
    have HR : Hid (U.rowIs w1.heap.size 2 4 (rowN [.int .i64 (-1), .int .i64 0, .int .i64 300, .int .i64 301])) := by show U.rowIs _ _ _ _; rw [hU]; exact rowN_alloc _ _ _
    have HDU : Hid (Drew sb w U) := ⟨HD.out.1.below hb, HD.out.2.trans (Chg.of_below hb)⟩
    have HU := Lib.hid hU
    clear hU hb HD
    go_wp2_with fail
    rw [← HU.out]
    clear HU
    refine (n_any sb 4 _ HDU.out.1 (by omega)).mono ?_
    rintro e w2 ⟨⟨x, rfl, x0, x1, _⟩, hD⟩
    have x2 := x1 (by omega)
    obtain ⟨q, rfl⟩ : ∃ q : Nat, x = (q : Int) := ⟨x.toNat, by omega⟩
    obtain ⟨y, hy⟩ := four_at (nrow_drew HR.out (show sb ≠ w1.heap.size by have := HL.out; omega) hD.2) (show q < 4 by omega)
    have hq4 : (q : Int) < 4 := by omega
    have HD2 : Hid (Drew sb w w2) := ⟨hD.1, HDU.out.2.trans hD.2⟩
    clear hD HDU HR x0 x1 x2
    go_wp2_with fail
    go_ret
    exact ⟨⟨_, rfl⟩, HD2.out⟩
/-- What DrawRenewOf tells. -/
def RdEnd (e : Ending) (W : World) : Prop := ∃ g n c F z pa m pc p, e = .returned (.tuple #[.slice (some ⟨g, 0, none⟩) n c, .int .i64 z, .slice pa m pc]) ∧ n ≤ 1000 ∧ IsAt (some ⟨g, 0, none⟩) (n * 2) F W ∧ m ≤ 1000 ∧ IsAt pa m p W ∧ (pa = none → m = 0 ∧ pc = 0)
theorem ro_picks2 (cs wo cd : Int) (n : Nat) (a : Option Addr) (c : Nat) (w : World) : (Instr.field 26 (roV cs wo cd n a c) 0).run Tryd.prog w = .ok (.slice a n c) w := by kernel_rfl
set_option maxRecDepth 100000 in
set_option maxHeartbeats 4000000 in
theorem drawRO_any (a : Option Addr) (len cap : Nat) (w : World) (h : Bytes a len w) (hl : len ≤ 4194304) :
    Calls Tryd.prog 21 #[.slice a len cap] w fun e w' => RdEnd e w' ∧ Below w.heap.size w w' := by
  have H := Lib.hid h
  clear h
  go_enter Tryd.func21, Tryd.ntmps21
  go_wp2_with fail
  refine (source_any a len cap _ H.out hl).mono ?_
  rintro e w1 ⟨rfl, hs, hb⟩
  have HB := Lib.hid hb
  have HS := Lib.hid hs
  clear hb hs H
  go_wp2_with fail
  refine (dassets_any w.heap.size _ HS.out).mono ?_
  rintro e w2 ⟨v, n, F, rfl, hn, hA⟩
  obtain ⟨lg, lc, rfl, hI, hne⟩ := al_at hA
  have HI := Lib.hid hI
  have HNE : Hid (∀ o, some (⟨lg, 0, none⟩ : Addr) = some o → o.block ≠ w.heap.size) := fun o e => by cases e; show lg ≠ _; have := HS.out.lt; omega
  have HB2 : Hid (Below w.heap.size w w2) := HB.out.trans (hA.2.1.2.below (Nat.le_refl _) HB.out.size)
  have HS2 := Lib.hid hA.2.1.1
  clear hA hI hne HB HS
  go_wp2_with fail
  refine (dbudget_any w.heap.size _ HS2.out).mono ?_
  rintro e w3 ⟨⟨z, rfl⟩, hD⟩
  replace HI := Lib.hid (isat_drew HI.out HNE.out hD.2)
  have HB3 : Hid (Below w.heap.size w w3) := HB2.out.trans (hD.2.below (Nat.le_refl _) HB2.out.size)
  have HS3 := Lib.hid hD.1
  clear hD HB2 HS2
  go_wp2_with fail
  refine (one_any w.heap.size 2 _ HS3.out (by omega)).mono ?_
  rintro e w4 ⟨⟨bb, rfl⟩, hD⟩
  replace HI := Lib.hid (isat_drew HI.out HNE.out hD.2)
  have HB4 : Hid (Below w.heap.size w w4) := HB3.out.trans (hD.2.below (Nat.le_refl _) HB3.out.size)
  have HS4 := Lib.hid hD.1
  clear hD HB3 HS3
  cases bb with
  | true =>
    go_wp2_with fail
    refine (specBest_any (some ⟨lg, 0, none⟩) n lc F z _ HI.out (by omega)).mono ?_
    rintro e w5 ⟨⟨ka, kc, rfl, hK⟩, hb⟩
    obtain ⟨O, hO⟩ : ∃ O, O = Rn.bs n F z := ⟨_, rfl⟩
    have hOm : O.m ≤ 1000 := by
      rw [hO]
      by_cases q : 400 < n
      · rw [Rn.bs_big q]; exact Nat.zero_le _
      · by_cases q2 : Rn.Right n F ∧ Rn.BudOk z
        · unfold Rn.bs
          rw [if_neg q, if_pos (dB_tt q2)]
          show (Rn.picks F n z.toNat).length ≤ 1000
          have := Rn.picks_len F n z.toNat
          omega
        · rw [Rn.bs_form q q2]; exact Nat.zero_le _
    rw [← hO] at hK ⊢
    have HK : Hid (IsAt ka O.m O.L w5) := by have q := hK.at_; rw [Nat.mul_one] at q; exact q
    have HKN : Hid (ka = none → O.m = 0 ∧ kc = 0) := fun e => by
      rcases hK with q | ⟨g, e', _⟩
      · exact ⟨q.2.1, q.2.2⟩
      · rw [e] at e'; cases e'
    replace HI := Lib.hid (HI.out.below hb)
    have HB5 : Hid (Below w.heap.size w w5) := HB4.out.trans (hb.mono HB4.out.size)
    have hfld := fun w => ro_picks2 O.cs O.wo O.cd O.m ka kc w
    clear hK hb hO HB4 HS4
    go_wp2_with fail
    exact bodyPost_ret (v := .tuple #[.slice (some ⟨lg, 0, none⟩) n lc, .int .i64 z, .slice ka O.m kc]) (by simp only [results, Tryd.results21]; simp [go_sem]) rfl ⟨⟨lg, n, lc, F, z, ka, O.m, kc, O.L, rfl, by omega, HI.out, hOm, HK.out, HKN.out⟩, HB5.out⟩
  | false =>
    go_wp2_with fail
    refine (n_any w.heap.size 20 _ HS4.out (by omega)).mono ?_
    rintro e w5 ⟨⟨x, rfl, x0, x1, _⟩, hD⟩
    have x2 := x1 (by omega)
    replace HI := Lib.hid (isat_drew HI.out HNE.out hD.2)
    have HB5 : Hid (Below w.heap.size w w5) := HB4.out.trans (hD.2.below (Nat.le_refl _) HB4.out.size)
    have HS5 := Lib.hid hD.1
    obtain ⟨y, hy⟩ := Rn.max 0 (x - 18)
    have hy2 : y = 0 ∨ y = 1 := by unfold Rn.Mx at hy; omega
    have HY := Lib.hid hy
    have ex : IntKind.i64.wrap (x - 18) = x - 18 := rwrap (by omega) (by omega)
    obtain ⟨M, hM⟩ : ∃ M : Nat, (n : Int) + y = (M : Int) := ⟨((n : Int) + y).toNat, by omega⟩
    have eM : IntKind.i64.wrap ((n : Int) + y) = (M : Int) := by rw [rwrap (by omega) (by omega)]; exact hM
    have hM1 : M ≤ 1000 := by omega
    clear hD HB4 HS4 x1 hy
    go_wp2_with fail
    refine (rmax_any 0 (x - 18) y _ HY.out).mono ?_
    rintro e w6 ⟨rfl, hw⟩
    subst w6
    clear hy2 hM x0 x2 ex HY
    go_wp2_with fail
    refine (drising_any w.heap.size M 3 hM1 (by omega) _ HS5.out).mono ?_
    rintro e w6 ⟨v, rfl, zs, hz, hL⟩
    obtain ⟨pa, pc, rfl, hP, _, hPN⟩ := dl_at hL
    have HP := Lib.hid hP
    have HPN := Lib.hid hPN
    replace HI := Lib.hid (isat_drew HI.out HNE.out hL.2.1.2)
    have HB6 : Hid (Below w.heap.size w w6) := HB5.out.trans (hL.2.1.2.below (Nat.le_refl _) HB5.out.size)
    clear hL hP hPN HB5 HS5
    go_wp2_with fail
    exact bodyPost_ret (v := .tuple #[.slice (some ⟨lg, 0, none⟩) n lc, .int .i64 z, .slice pa zs.length pc]) (by simp only [results, Tryd.results21]; simp [go_sem]) rfl ⟨⟨lg, n, lc, F, z, pa, zs.length, pc, _, rfl, by omega, HI.out, by omega, HP.out, HPN.out⟩, HB6.out⟩
/-- What DrawRenewYears tells. -/
def RyEnd (e : Ending) (W : World) : Prop := ∃ g n c F pa m pc p, e = .returned (.tuple #[.slice (some ⟨g, 0, none⟩) n c, .slice pa m pc]) ∧ n ≤ 1000 ∧ IsAt (some ⟨g, 0, none⟩) (n * 2) F W ∧ m ≤ 1000 ∧ IsAt pa m p W ∧ (pa = none → m = 0 ∧ pc = 0)
set_option maxRecDepth 100000 in
set_option maxHeartbeats 4000000 in
theorem drawRY_any (a : Option Addr) (len cap : Nat) (w : World) (h : Bytes a len w) (hl : len ≤ 4194304) :
    Calls Tryd.prog 26 #[.slice a len cap] w fun e w' => RyEnd e w' ∧ Below w.heap.size w w' := by
  have H := Lib.hid h
  clear h
  go_enter Tryd.func26, Tryd.ntmps26
  go_wp2_with fail
  refine (source_any a len cap _ H.out hl).mono ?_
  rintro e w1 ⟨rfl, hs, hb⟩
  have HB := Lib.hid hb
  have HS := Lib.hid hs
  clear hb hs H
  go_wp2_with fail
  refine (dassets_any w.heap.size _ HS.out).mono ?_
  rintro e w2 ⟨v, n, F, rfl, hn, hA⟩
  obtain ⟨lg, lc, rfl, hI, hne⟩ := al_at hA
  have HI := Lib.hid hI
  have HNE : Hid (∀ o, some (⟨lg, 0, none⟩ : Addr) = some o → o.block ≠ w.heap.size) := fun o e => by cases e; show lg ≠ _; have := HS.out.lt; omega
  have HB2 : Hid (Below w.heap.size w w2) := HB.out.trans (hA.2.1.2.below (Nat.le_refl _) HB.out.size)
  have HS2 := Lib.hid hA.2.1.1
  clear hA hI hne HB HS
  go_wp2_with fail
  refine (n_any w.heap.size 5 _ HS2.out (by omega)).mono ?_
  rintro e w3 ⟨⟨x, rfl, x0, x1, _⟩, hD⟩
  have x2 := x1 (by omega)
  replace HI := Lib.hid (isat_drew HI.out HNE.out hD.2)
  have HB3 : Hid (Below w.heap.size w w3) := HB2.out.trans (hD.2.below (Nat.le_refl _) HB2.out.size)
  have HS3 := Lib.hid hD.1
  clear hD HB2 HS2 x1
  go_wp2_with fail
  refine (one_any w.heap.size 40 _ HS3.out (by omega)).mono ?_
  rintro e w4 ⟨⟨bb, rfl⟩, hD⟩
  replace HI := Lib.hid (isat_drew HI.out HNE.out hD.2)
  have HB4 : Hid (Below w.heap.size w w4) := HB3.out.trans (hD.2.below (Nat.le_refl _) HB3.out.size)
  have HS4 := Lib.hid hD.1
  clear hD HB3 HS3
  cases bb with
  | false =>
    obtain ⟨M, rfl⟩ : ∃ M : Nat, x = (M : Int) := ⟨x.toNat, by omega⟩
    have hM1 : M ≤ 1000 := by omega
    go_wp2_with fail
    refine (dlist_any w.heap.size M hM1 _ HS4.out).mono ?_
    rintro e w6 ⟨v, rfl, zs, hz, hL⟩
    obtain ⟨pa, pc, rfl, hP, _, hPN⟩ := dl_at hL
    have HP := Lib.hid hP
    have HPN := Lib.hid hPN
    replace HI := Lib.hid (isat_drew HI.out HNE.out hL.2.1.2)
    have HB6 : Hid (Below w.heap.size w w6) := HB4.out.trans (hL.2.1.2.below (Nat.le_refl _) HB4.out.size)
    have hzl : zs.length ≤ 1000 := by omega
    clear hL hP hPN HB4 HS4 hz
    go_wp2_with fail
    exact bodyPost_ret (v := .tuple #[.slice (some ⟨lg, 0, none⟩) n lc, .slice pa zs.length pc]) (by simp only [results, Tryd.results26]; simp [go_sem]) rfl ⟨⟨lg, n, lc, F, pa, zs.length, pc, _, rfl, by omega, HI.out, by omega, HP.out, HPN.out⟩, HB6.out⟩
  | true =>
    go_wp2_with fail
    refine (n_any w.heap.size 3 _ HS4.out (by omega)).mono ?_
    rintro e w5 ⟨⟨y, rfl, y0, y1, _⟩, hD⟩
    have y2 := y1 (by omega)
    replace HI := Lib.hid (isat_drew HI.out HNE.out hD.2)
    replace HB4 : Hid (Below w.heap.size w w5) := HB4.out.trans (hD.2.below (Nat.le_refl _) HB4.out.size)
    replace HS4 := Lib.hid hD.1
    obtain ⟨M, hM⟩ : ∃ M : Nat, 19 + y = (M : Int) := ⟨(19 + y).toNat, by omega⟩
    have eM : IntKind.i64.wrap (19 + y) = (M : Int) := by rw [rwrap (by omega) (by omega)]; exact hM
    have hM1 : M ≤ 1000 := by omega
    clear hD y0 y1 y2 hM x0 x2
    go_wp2_with fail
    refine (dlist_any w.heap.size M hM1 _ HS4.out).mono ?_
    rintro e w6 ⟨v, rfl, zs, hz, hL⟩
    obtain ⟨pa, pc, rfl, hP, _, hPN⟩ := dl_at hL
    have HP := Lib.hid hP
    have HPN := Lib.hid hPN
    replace HI := Lib.hid (isat_drew HI.out HNE.out hL.2.1.2)
    have HB6 : Hid (Below w.heap.size w w6) := HB4.out.trans (hL.2.1.2.below (Nat.le_refl _) HB4.out.size)
    have hzl : zs.length ≤ 1000 := by omega
    clear hL hP hPN HB4 HS4 hz
    go_wp2_with fail
    exact bodyPost_ret (v := .tuple #[.slice (some ⟨lg, 0, none⟩) n lc, .slice pa zs.length pc]) (by simp only [results, Tryd.results26]; simp [go_sem]) rfl ⟨⟨lg, n, lc, F, pa, zs.length, pc, _, rfl, by omega, HI.out, by omega, HP.out, HPN.out⟩, HB6.out⟩
end Go.Proofs.YtbkpedcabbppbaaDoor
