/-
  The law FnAccount.
-/
import Derived.Test.YtnbnfifgajfomaaDoorBiDr
import Derived.Test.YtnbnfifgajfomaaDoorBiAr
namespace Go.Proofs.YtnbnfifgajfomaaDoor
open Go Go.RowKit Go.Deep

namespace Bi
theorem sum_shift (f : Nat → Int) : ∀ n, sum f (n + 1) = f 0 + sum (fun i => f (i + 1)) n
  | 0 => by simp [sum]
  | n + 1 => by
    have h := sum_shift f n
    show sum f (n + 1) + f (n + 1) = f 0 + (sum (fun i => f (i + 1)) n + f (n + 1))
    omega
theorem isum_sum : ∀ l : List Int, isum l = sum (qf l) l.length
  | [] => rfl
  | x :: l => by
    show x + isum l = sum (qf (x :: l)) (l.length + 1)
    rw [sum_shift, isum_sum l]
    rfl
/-- What a good account tells. -/
structure Book (E : Nat → Int) (n : Nat) (O : List Int) (C P B : Int) : Prop where
  book : isum O - C = B - P
  pos : AllPos O
  len : O.length ≤ 100
  c0 : 0 ≤ C
  c1 : C ≤ 100000000000
  one : O = [] ∨ C = 0
  p0 : -100000000000 ≤ P
  p1 : P ≤ 100000000000
  b0 : 0 ≤ B
  b1 : B ≤ 100000000000
theorem book_of {E : Nat → Int} {n : Nat} (h : code E n = 0) : Book E n (ansO E n) (ansC E n) (ansP E n) (sum (bld E) n) ∧ ansP E n = sum (pd E) n := by
  have hg := good_of h
  have hi := inv_at n hg.2
  have h1 := at_book n hg.2
  have h2 := pd_bd n hg.2
  have h3 := bld_bd n hg.2
  have h4 := hi.c1
  have h5 := hi.len
  have e1 : ansO E n = (at_ E n).o := by unfold ansO; rw [if_pos h]
  have e2 : ansC E n = (at_ E n).c := by unfold ansC; rw [if_pos h]
  have e3 : ansP E n = sum (pd E) n := by unfold ansP; rw [if_pos h]
  rw [e1, e2, e3]
  exact ⟨⟨h1, hi.pos, by omega, hi.c0, by omega, hi.one, by omega, by omega, h3.1, by omega⟩, rfl⟩
theorem isum_bd {l : List Int} (h : AllPos l) : 0 ≤ isum l ∧ isum l ≤ l.length * 1000000000 := by
  induction l with
  | nil => exact ⟨Int.le_refl _, by simp [isum]⟩
  | cons x l ih =>
    have h1 := h x (List.mem_cons_self ..)
    have h2 := ih (fun y hy => h y (List.mem_cons_of_mem _ hy))
    show 0 ≤ x + isum l ∧ x + isum l ≤ ((l.length + 1 : Nat) : Int) * 1000000000
    omega
theorem pos_at {l : List Int} (h : AllPos l) {i : Nat} (hi : i < l.length) : 1 ≤ qf l i ∧ qf l i ≤ 1000000000 := by
  unfold qf
  rw [List.getD_eq_getElem?_getD, List.getElem?_eq_getElem hi]
  exact h _ (List.getElem_mem hi)
/-- Where the sums stand. -/
structure Sm (E : Nat → Int) (i : Nat) (B P : Int) : Prop where
  eb : B = sum (bld E) i
  ep : P = sum (pd E) i
  b0 : 0 ≤ B
  b1 : B ≤ 100000000000
  p0 : -100000000000 ≤ P
  p1 : P ≤ 100000000000
theorem sm_at {E : Nat → Int} {n i : Nat} (hg : Good E n) (hn : n ≤ 100) (hi : i ≤ n) : Sm E i (sum (bld E) i) (sum (pd E) i) := by
  have h : Good E i := fun j hj => hg j (by omega)
  have h2 := pd_bd i h
  have h3 := bld_bd i h
  exact ⟨rfl, rfl, h3.1, by omega, by omega, by omega⟩
theorem sm_one {E : Nat → Int} {i : Nat} {B P : Int} (h : Sm E i B P) (e : E (i * 2) = 1) : B + E (i * 2 + 1) = sum (bld E) (i + 1) ∧ P = sum (pd E) (i + 1) := by
  have e1 : bld E i = E (i * 2 + 1) := by unfold bld; rw [e]; rfl
  have e2 : pd E i = 0 := by unfold pd; rw [e]; rfl
  have h1 := h.eb
  have h2 := h.ep
  show _ = sum (bld E) i + bld E i ∧ _ = sum (pd E) i + pd E i
  omega
theorem sm_two {E : Nat → Int} {i : Nat} {B P : Int} (h : Sm E i B P) (e : E (i * 2) = 2) : B = sum (bld E) (i + 1) ∧ P + E (i * 2 + 1) = sum (pd E) (i + 1) := by
  have e1 : bld E i = 0 := by unfold bld; rw [e]; rfl
  have e2 : pd E i = E (i * 2 + 1) := by unfold pd; rw [e]; rfl
  have h1 := h.eb
  have h2 := h.ep
  show _ = sum (bld E) i + bld E i ∧ _ = sum (pd E) i + pd E i
  omega
theorem sm_three {E : Nat → Int} {i : Nat} {B P : Int} (h : Sm E i B P) (e : E (i * 2) = 3) : B = sum (bld E) (i + 1) ∧ P - E (i * 2 + 1) = sum (pd E) (i + 1) := by
  have e1 : bld E i = 0 := by unfold bld; rw [e]; rfl
  have e2 : pd E i = - E (i * 2 + 1) := by unfold pd; rw [e]; rfl
  have h1 := h.eb
  have h2 := h.ep
  show _ = sum (bld E) i + bld E i ∧ _ = sum (pd E) i + pd E i
  omega
end Bi
theorem acc_code (cr pd cd : Int) (n : Nat) (a : Option Addr) (c : Nat) (w : World) : (Instr.field 38 (acV cr pd cd n a c) 3).run Tryd.prog w = .ok (.int .i64 cd) w := by kernel_rfl
set_option maxRecDepth 100000 in
set_option maxHeartbeats 16000000 in
theorem account_law (w : World) (a : Option Addr) (len cap : Nat) (h : Bytes a len w) (hl : len ≤ 9223372036854775807) (hg : Et w ∧ TabOk w) :
    Calls Tryd.prog 4 #[.slice a len cap] w fun e w' => e = .returned (.bool true) ∧ Below w.heap.size w w' := by
  obtain ⟨i1, hi1, hy0, hy1, hy2⟩ := info_parts ninfo_Entry
  have H := Lib.hid h
  have HG := Lib.hid hg
  clear h hg
  by_cases hbig : (1048576 : Int) < (len : Int)
  · go_enter Tryd.func4, Tryd.ntmps4
    go_wp2_with fail
    go_ret
    exact ⟨rfl, Below.refl _ _⟩
  go_enter Tryd.func4, Tryd.ntmps4
  go_wp2_with fail
  refine (drawAcc_any a len cap _ H.out (by omega)).mono ?_
  rintro e w1 ⟨⟨g, n, c, zs, rfl, hn, hzl, hk⟩, hb⟩
  have HB1 := Lib.hid hb
  have HK1 := Lib.hid hk
  have HZL := Lib.hid hzl
  obtain ⟨E, hE⟩ : ∃ E, E = qf zs := ⟨_, rfl⟩
  rw [← hE] at HK1
  have HE := Lib.hid hE
  clear hb hk hzl hE H hbig hl
  go_wp2_with fail
  refine (specAcc_any _ n c E _ HK1.out.at_ (by omega)).mono ?_
  rintro e w2 ⟨⟨a5, c5, rfl, _⟩, hb⟩
  have HB2 : Hid (Below w.heap.size w w2) := HB1.out.trans (hb.mono HB1.out.size)
  have HK2 := Lib.hid (HK1.out.below hb)
  clear hb HB1 HK1
  obtain ⟨O, hO⟩ : ∃ O, O = Bi.ansO E n := ⟨_, rfl⟩
  obtain ⟨C, hC⟩ : ∃ C, C = Bi.ansC E n := ⟨_, rfl⟩
  obtain ⟨P, hP⟩ : ∃ P, P = Bi.ansP E n := ⟨_, rfl⟩
  rw [← hO, ← hC, ← hP]
  have HO := Lib.hid hO
  have HC := Lib.hid hC
  have HP := Lib.hid hP
  have hfld := acc_code C P (Bi.code E n) O.length a5 c5
  by_cases hcd : Bi.code E n = 0
  case neg =>
    have hcd2 : (Bi.code E n != 0) = true := by simpa using hcd
    clear hO hC hP
    go_wp2_with fail
    go_ret
    exact ⟨rfl, HB2.out⟩
  have hbk := Bi.book_of hcd
  have hgd := Bi.good_of hcd
  rw [← hO, ← hC, ← hP] at hbk
  have HBK := Lib.hid hbk.1
  have HPE := Lib.hid hbk.2
  have HGD := Lib.hid hgd.2
  have HCD := Lib.hid hcd
  have hn1 : n ≤ 100 := hgd.1
  rw [hcd] at hfld ⊢
  clear hO hC hP hbk hgd hcd hn
  go_wp2_with fail
  clear hfld
  go_loopw [4, 5, 6] (fun bv pv iv wr => ∃ (i : Nat) (B P : Int), i ≤ n ∧ bv = .int .i64 B ∧ pv = .int .i64 P ∧ iv = .int .i64 i ∧ Hid (Bi.Sm E i B P) ∧ wr = w2) (fun _ _ iv _ => n - (intOf iv).toNat)
  case atStart => exact ⟨0, 0, 0, Nat.zero_le _, rfl, rfl, rfl, Bi.sm_at HGD.out hn1 (Nat.zero_le _), rfl⟩
  case round =>
    obtain ⟨i, B, Q, hi, rfl, rfl, rfl, HSM, rfl⟩ := hrel
    by_cases hlt : i < n
    · obtain ⟨b, eb, c0, c1⟩ := HK2.out.at_.at2 hlt
      cases eb
      obtain ⟨⟨⟨e0, e1⟩, m0, m1⟩, _⟩ := HGD.out i hlt
      have b0 := HSM.out.b0
      have b1 := HSM.out.b1
      have p0 := HSM.out.p0
      have p1 := HSM.out.p1
      have hk3 : E (i * 2) = 1 ∨ E (i * 2) = 2 ∨ E (i * 2) = 3 := by omega
      obtain ⟨M, hM⟩ : ∃ M, M = E (i * 2 + 1) := ⟨_, rfl⟩
      have HM := Lib.hid hM
      rw [← hM] at m0 m1 c1
      have hltz : (i : Int) < (n : Int) := by omega
      clear hM e0 e1
      rcases hk3 with hk3 | hk3 | hk3
      · rw [hk3] at c0
        have HS := Lib.hid (Bi.sm_one HSM.out hk3)
        clear hk3
        go_wp2_with fail
        go_roundw
        case rel => exact ⟨i + 1, B + M, Q, by omega, rfl, rfl, by go_num, by rw [HM.out, HS.out.1, HS.out.2]; exact Bi.sm_at HGD.out hn1 (by omega), trivial⟩
        case measure => simp [intOf]; omega
      · rw [hk3] at c0
        have HS := Lib.hid (Bi.sm_two HSM.out hk3)
        clear hk3
        go_wp2_with fail
        go_roundw
        case rel => exact ⟨i + 1, B, Q + M, by omega, rfl, rfl, by go_num, by rw [HM.out, HS.out.1, HS.out.2]; exact Bi.sm_at HGD.out hn1 (by omega), trivial⟩
        case measure => simp [intOf]; omega
      · rw [hk3] at c0
        have HS := Lib.hid (Bi.sm_three HSM.out hk3)
        clear hk3
        go_wp2_with fail
        go_roundw
        case rel => exact ⟨i + 1, B, Q - M, by omega, rfl, rfl, by go_num, by rw [HM.out, HS.out.1, HS.out.2]; exact Bi.sm_at HGD.out hn1 (by omega), trivial⟩
        case measure => simp [intOf]; omega
    · obtain rfl : i = n := by omega
      have hQ : Q = P := HSM.out.ep.trans HPE.out.symm
      subst hQ
      have HBE := Lib.hid HSM.out.eb
      rw [← HSM.out.eb] at HBK
      clear HSM hi hlt
      have HNL : Hid (∀ j u, (iv zs)[j]? = some u → (wr.alloc (.cells #[] 41)).cell? ((⟨g, 0, none⟩ : Addr).add j) = some u) := by
        intro j u hj
        have hjl : j < zs.length := by
          have := (List.getElem?_eq_some_iff.1 hj).1
          unfold iv at this
          simpa using this
        rw [iv_get hjl] at hj
        cases hj
        have h1 := (HK2.out.below (nbel_alloc wr (.cells #[] 41))).cell (i := j) (by have := HZL.out; omega)
        rw [Addr.add_lit, Nat.zero_add, ← HE.out]
        exact h1
      have hzn : (iv zs).length = i * 2 := by unfold iv; rw [List.length_map]; exact HZL.out
      go_wp2_with (at_builtin; refine wpList_append_own _ rfl _ _ 35 rfl wr.heap.size 41 i1 _ 2 16 Tryd.underlying35 hi1 hy0 hy1 hy2 rfl (by decide) _ 0 [] rfl (World.ownsRow_made wr #[] 0 (Nat.le_refl _) (Nat.zero_le _) rfl) ⟨g, 0, none⟩ i c (iv zs) rfl hzn HNL.out ?d2 ?d3 ?d4 ?d5 ?_)
      case d2 =>
        intro x hx
        unfold iv at hx
        obtain ⟨z, _, rfl⟩ := List.mem_map.1 hx
        rfl
      case d3 => unfold maxLen; omega
      case d4 => omega
      case d5 => simp
      intro v5 W5 hown hgrow hnil
      have hown2 : W5.ownsRow wr.heap.size 41 2 v5 i (iv zs) := by simpa using hown
      obtain ⟨a6, c6, rfl, h6⟩ := ls_of hown2
      have hb5 : Below wr.heap.size wr W5 := (nbel_alloc wr _).grown hgrow (by simp) (fun k e => by cases e; exact Nat.le_refl _)
      have HB5 : Hid (Below w.heap.size w W5) := HB2.out.trans (hb5.mono HB2.out.size)
      have HA5 : Hid (IsAt a6 (i * 2) E W5) := by show IsAt _ _ _ _; rw [HE.out]; exact h6.at_
      clear hown hown2 hgrow hnil hb5 h6 hzn HNL HK2 HB2
      go_wp2_with fail
      refine (implAcc_any a6 i c6 E _ HA5.out ⟨HG.out.1.below HB5.out, tab_below HG.out.2 HB5.out⟩).mono ?_
      rintro e w7 ⟨⟨a9, c9, rfl, hq⟩, hb⟩
      rw [← HO.out, ← HC.out, ← HP.out, HCD.out]
      rw [← HO.out] at hq
      obtain ⟨N, hN⟩ : ∃ N, N = O.length := ⟨_, rfl⟩
      rw [← hN] at hq ⊢
      have HN := Lib.hid hN
      obtain ⟨W8, hW8⟩ : ∃ W, W = w7.alloc (.cells #[.slice a9 N c9, .int .i64 C, .int .i64 Q, .int .i64 0] 38) := ⟨_, rfl⟩
      obtain ⟨s7, hs7⟩ : ∃ s, s = w7.heap.size := ⟨_, rfl⟩
      have hb8 : Below W5.heap.size W5 W8 := hb.trans (by rw [hW8]; exact (nbel_alloc _ _).mono hb.size)
      have HB8 : Hid (Below w.heap.size w W8) := HB5.out.trans (hb8.mono HB5.out.size)
      have HR : Hid (W8.rowIs s7 38 4 (rowN [.slice a9 N c9, .int .i64 C, .int .i64 Q, .int .i64 0])) := by show World.rowIs _ _ _ _ _; rw [hW8, hs7]; exact rowN_alloc w7 _ _
      have HQ : Hid (IsIn a9 N (qf O) W8) := by show IsIn _ _ _ _; rw [hW8]; exact (hq.below (nbel_alloc _ _)).in_
      have HW8 := Lib.hid hW8
      have HS7 := Lib.hid hs7
      have hN1 : N ≤ 100 := by rw [hN]; exact HBK.out.len
      obtain ⟨S, hS⟩ : ∃ S, S = Bi.sum (qf O) N := ⟨_, rfl⟩
      have hSE : S = Bi.isum O := by rw [hS, hN]; exact (Bi.isum_sum O).symm
      have HSS := Lib.hid hS
      have k1 := HBK.out.book
      rw [← hSE] at k1
      have k2 := Bi.isum_bd HBK.out.pos
      rw [← hSE, ← hN] at k2
      have k3 := HBK.out.c0
      have k4 := HBK.out.c1
      have k5 := HBK.out.p0
      have k6 := HBK.out.p1
      have k7 := HBK.out.b0
      have k8 := HBK.out.b1
      have HALL : Hid ((S - C = B - Q) ∧ (0 ≤ S ∧ S ≤ 100000000000) ∧ (0 ≤ C ∧ C ≤ 100000000000) ∧ (-100000000000 ≤ Q ∧ Q ≤ 100000000000) ∧ (0 ≤ B ∧ B ≤ 100000000000)) := ⟨k1, ⟨k2.1, by omega⟩, ⟨k3, k4⟩, ⟨k5, k6⟩, k7, k8⟩
      clear hb hb8 hq hN hW8 hs7 hS hSE k1 k2 k3 k4 k5 k6 k7 k8 HB5 HA5
      obtain ⟨⟨o0, o1, o2, o3⟩, _⟩ := rowN4 HR.out
      go_upto_region 18 with fail
      rw [← HW8.out, ← HS7.out]
      clear o0 o1 o2 o3 HW8 HS7
      refine wp_region_held_drew (S := fun V => Below W8.heap.size W8 V) (by kernel_rfl) (Below.refl _ _).drew (fun hHeld => ?_)
      obtain ⟨Z, hZ⟩ : ∃ Z, Z = W8.drew := ⟨_, rfl⟩
      rw [← hZ] at hHeld ⊢
      clear hZ
      refine take_do (i := 0) (v := (.pointer (some ⟨s7, 3, none⟩))) rfl (by kernel_rfl) (by kernel_rfl) (by kernel_rfl) (fun _ _ _ h => h) (by rfl) ?_ (by assumption) ?_
      · intro w hSw
        skip
        go_simp
      simp only [Act.put, List.setIfInBounds_toArray, List.set_cons_zero, List.set_cons_succ]
      refine take_do (i := 1) (v := (.int .i64 0)) rfl (by kernel_rfl) (by kernel_rfl) (by kernel_rfl) (fun _ _ _ h => h) (by rfl) ?_ (by assumption) ?_
      · intro w hSw
        obtain ⟨⟨q0, q1, q2, q3⟩, _⟩ := rowN4 (nrow_below HR.out hSw)
        go_simp
      simp only [Act.put, List.setIfInBounds_toArray, List.set_cons_zero, List.set_cons_succ]
      refine take_do (i := 2) (v := (.bool false)) rfl (by kernel_rfl) (by kernel_rfl) (by kernel_rfl) (fun _ _ _ h => h) (by rfl) ?_ (by assumption) ?_
      · intro w hSw
        skip
        go_simp
      simp only [Act.put, List.setIfInBounds_toArray, List.set_cons_zero, List.set_cons_succ]
      refine take_do (i := 3) (v := (.bool false)) rfl (by kernel_rfl) (by kernel_rfl) (by kernel_rfl) (fun _ _ _ h => h) (by rfl) ?_ (by assumption) ?_
      · intro w hSw
        skip
        go_simp
      simp only [Act.put, List.setIfInBounds_toArray, List.set_cons_zero, List.set_cons_succ]
      refine take_do (i := 4) (v := (.pointer (some ⟨s7, 2, none⟩))) rfl (by kernel_rfl) (by kernel_rfl) (by kernel_rfl) (fun _ _ _ h => h) (by rfl) ?_ (by assumption) ?_
      · intro w hSw
        skip
        go_simp
      simp only [Act.put, List.setIfInBounds_toArray, List.set_cons_zero, List.set_cons_succ]
      refine take_do (i := 5) (v := (.int .i64 Q)) rfl (by kernel_rfl) (by kernel_rfl) (by kernel_rfl) (fun _ _ _ h => h) (by rfl) ?_ (by assumption) ?_
      · intro w hSw
        obtain ⟨⟨q0, q1, q2, q3⟩, _⟩ := rowN4 (nrow_below HR.out hSw)
        go_simp
      simp only [Act.put, List.setIfInBounds_toArray, List.set_cons_zero, List.set_cons_succ]
      refine take_do (i := 6) (v := (.int .i64 Q)) rfl (by kernel_rfl) (by kernel_rfl) (by kernel_rfl) (fun _ _ _ h => h) (by rfl) ?_ (by assumption) ?_
      · intro w hSw
        skip
        go_simp
      simp only [Act.put, List.setIfInBounds_toArray, List.set_cons_zero, List.set_cons_succ]
      refine take_do (i := 7) (v := (.bool false)) rfl (by kernel_rfl) (by kernel_rfl) (by kernel_rfl) (fun _ _ _ h => h) (by rfl) ?_ (by assumption) ?_
      · intro w hSw
        have hqq : (Q != Q) = false := by simp
        go_simp
      simp only [Act.put, List.setIfInBounds_toArray, List.set_cons_zero, List.set_cons_succ]
      refine take_do (i := 8) (v := (.bool false)) rfl (by kernel_rfl) (by kernel_rfl) (by kernel_rfl) (fun _ _ _ h => h) (by rfl) ?_ (by assumption) ?_
      · intro w hSw
        skip
        go_simp
      simp only [Act.put, List.setIfInBounds_toArray, List.set_cons_zero, List.set_cons_succ]
      refine take_do (i := 9) (v := (.bool false)) rfl (by kernel_rfl) (by kernel_rfl) (by kernel_rfl) (fun _ _ _ h => h) (by rfl) ?_ (by assumption) ?_
      · intro w hSw
        skip
        go_simp
      simp only [Act.put, List.setIfInBounds_toArray, List.set_cons_zero, List.set_cons_succ]
      refine take_do (i := 10) (v := (.pointer (some ⟨s7, 0, none⟩))) rfl (by kernel_rfl) (by kernel_rfl) (by kernel_rfl) (fun _ _ _ h => h) (by rfl) ?_ (by assumption) ?_
      · intro w hSw
        skip
        go_simp
      simp only [Act.put, List.setIfInBounds_toArray, List.set_cons_zero, List.set_cons_succ]
      refine take_do (i := 11) (v := (.slice a9 N c9)) rfl (by kernel_rfl) (by kernel_rfl) (by kernel_rfl) (fun _ _ _ h => h) (by rfl) ?_ (by assumption) ?_
      · intro w hSw
        obtain ⟨⟨q0, q1, q2, q3⟩, _⟩ := rowN4 (nrow_below HR.out hSw)
        go_simp
      simp only [Act.put, List.setIfInBounds_toArray, List.set_cons_zero, List.set_cons_succ]
      refine take_do (i := 13) (v := (.pointer (some ⟨s7, 1, none⟩))) rfl (by kernel_rfl) (by kernel_rfl) (by kernel_rfl) (fun _ _ _ h => h) (by rfl) ?_ (by assumption) ?_
      · intro w hSw
        skip
        go_simp
      simp only [Act.put, List.setIfInBounds_toArray, List.set_cons_zero, List.set_cons_succ]
      refine take_do (i := 14) (v := (.int .i64 C)) rfl (by kernel_rfl) (by kernel_rfl) (by kernel_rfl) (fun _ _ _ h => h) (by rfl) ?_ (by assumption) ?_
      · intro w hSw
        obtain ⟨⟨q0, q1, q2, q3⟩, _⟩ := rowN4 (nrow_below HR.out hSw)
        go_simp
      simp only [Act.put, List.setIfInBounds_toArray, List.set_cons_zero, List.set_cons_succ]
      refine take_do (i := 16) (v := (.int .i64 B)) rfl (by kernel_rfl) (by kernel_rfl) (by kernel_rfl) (fun _ _ _ h => h) (by rfl) ?_ (by assumption) ?_
      · intro w hSw
        skip
        go_simp
      simp only [Act.put, List.setIfInBounds_toArray, List.set_cons_zero, List.set_cons_succ]
      refine take_do (i := 17) (v := (.int .i64 Q)) rfl (by kernel_rfl) (by kernel_rfl) (by kernel_rfl) (fun _ _ _ h => h) (by rfl) ?_ (by assumption) ?_
      · intro w hSw
        skip
        go_simp
      simp only [Act.put, List.setIfInBounds_toArray, List.set_cons_zero, List.set_cons_succ]
      refine take_do (i := 18) (v := (.int .i64 (B - Q))) rfl (by kernel_rfl) (by kernel_rfl) (by kernel_rfl) (fun _ _ _ h => h) (by rfl) ?_ (by assumption) ?_
      · intro w hSw
        obtain ⟨j1, ⟨j2, j3⟩, ⟨j4, j5⟩, ⟨j6, j7⟩, j8, j9⟩ := HALL.out
        go_simp
        exact dwrap (by omega) (by omega)
      simp only [Act.put, List.setIfInBounds_toArray, List.set_cons_zero, List.set_cons_succ]
      refine take_call (i := 12) rfl (by kernel_rfl) (fun K2 hK => ?_)
      go_simp
      refine (bisum_any a9 N c9 (qf O) _ (HQ.out.below hHeld) (by omega) (fun j hj => by have := Bi.pos_at HBK.out.pos (i := j) (by rw [← HN.out]; exact hj); omega)).mono ?_
      rintro e Z1 ⟨rfl, rfl⟩
      rw [← HSS.out]
      go_wp2_with fail
      refine hK.out _ _ hHeld (fun hHeld2 => ?_)
      clear hK hHeld
      have hHeld := hHeld2
      clear hHeld2
      try simp only [Act.put, List.setIfInBounds_toArray, List.set_cons_zero, List.set_cons_succ]
      refine take_do (i := 15) (v := (.int .i64 (S - C))) rfl (by kernel_rfl) (by kernel_rfl) (by kernel_rfl) (fun _ _ _ h => h) (by rfl) ?_ (by assumption) ?_
      · intro w hSw
        obtain ⟨j1, ⟨j2, j3⟩, ⟨j4, j5⟩, ⟨j6, j7⟩, j8, j9⟩ := HALL.out
        go_simp
        exact dwrap (by omega) (by omega)
      simp only [Act.put, List.setIfInBounds_toArray, List.set_cons_zero, List.set_cons_succ]
      refine take_do (i := 19) (v := (.bool false)) rfl (by kernel_rfl) (by kernel_rfl) (by kernel_rfl) (fun _ _ _ h => h) (by rfl) ?_ (by assumption) ?_
      · intro w hSw
        have j1 : ((S - C) != (B - Q)) = false := by have := HALL.out.1; simp; omega
        go_simp
      simp only [Act.put, List.setIfInBounds_toArray, List.set_cons_zero, List.set_cons_succ]
      refine take_do (i := 20) (v := (.bool false)) rfl (by kernel_rfl) (by kernel_rfl) (by kernel_rfl) (fun _ _ _ h => h) (by rfl) ?_ (by assumption) ?_
      · intro w hSw
        skip
        go_simp
      simp only [Act.put, List.setIfInBounds_toArray, List.set_cons_zero, List.set_cons_succ]
      refine take_do (i := 21) (v := (.bool false)) rfl (by kernel_rfl) (by kernel_rfl) (by kernel_rfl) (fun _ _ _ h => h) (by rfl) ?_ (by assumption) ?_
      · intro w hSw
        skip
        go_simp
      simp only [Act.put, List.setIfInBounds_toArray, List.set_cons_zero, List.set_cons_succ]
      refine take_do (i := 22) (v := (.pointer (some ⟨s7, 1, none⟩))) rfl (by kernel_rfl) (by kernel_rfl) (by kernel_rfl) (fun _ _ _ h => h) (by rfl) ?_ (by assumption) ?_
      · intro w hSw
        skip
        go_simp
      simp only [Act.put, List.setIfInBounds_toArray, List.set_cons_zero, List.set_cons_succ]
      refine take_do (i := 23) (v := (.int .i64 C)) rfl (by kernel_rfl) (by kernel_rfl) (by kernel_rfl) (fun _ _ _ h => h) (by rfl) ?_ (by assumption) ?_
      · intro w hSw
        obtain ⟨⟨q0, q1, q2, q3⟩, _⟩ := rowN4 (nrow_below HR.out hSw)
        go_simp
      simp only [Act.put, List.setIfInBounds_toArray, List.set_cons_zero, List.set_cons_succ]
      refine take_do (i := 24) (v := (.bool false)) rfl (by kernel_rfl) (by kernel_rfl) (by kernel_rfl) (fun _ _ _ h => h) (by rfl) ?_ (by assumption) ?_
      · intro w hSw
        have j1 : ¬ C < 0 := by have := HALL.out.2.2.1; omega
        go_simp
      simp only [Act.put, List.setIfInBounds_toArray, List.set_cons_zero, List.set_cons_succ]
      refine take_do (i := 25) (v := (.bool false)) rfl (by kernel_rfl) (by kernel_rfl) (by kernel_rfl) (fun _ _ _ h => h) (by rfl) ?_ (by assumption) ?_
      · intro w hSw
        skip
        go_simp
      simp only [Act.put, List.setIfInBounds_toArray, List.set_cons_zero, List.set_cons_succ]
      refine wpAnyH_done (by kernel_rfl) ?_ _
      obtain ⟨X, hX⟩ : ∃ X, X = Z1 := ⟨_, rfl⟩
      rw [← hX] at hHeld ⊢
      clear hX
      replace HB8 := Lib.hid (HB8.out.trans (hHeld.mono HB8.out.size))
      replace HR := Lib.hid (nrow_below HR.out hHeld)
      replace HQ := Lib.hid (HQ.out.below hHeld)
      clear hHeld
      go_wp2_with fail
      go_loopw [8] (fun iv wx => ∃ (j : Nat), j ≤ N ∧ iv = .int .i64 j ∧ wx = X) (fun iv _ => N - (intOf iv).toNat)
      case atStart => exact ⟨0, Nat.zero_le _, rfl, rfl⟩
      case round =>
        obtain ⟨j, hj, rfl, rfl⟩ := hrel
        obtain ⟨⟨o0, o1, o2, o3⟩, _⟩ := rowN4 HR.out
        by_cases hjl : j < N
        · have hjz : (j : Int) < (N : Int) := by omega
          rcases HQ.out with h0 | ⟨b, o, rfl, hc⟩
          · exact absurd h0 (by omega)
          have c0 := hc j hjl
          have hp := Bi.pos_at HBK.out.pos (i := j) (by rw [← HN.out]; exact hjl)
          obtain ⟨x, hx⟩ : ∃ x, x = qf O j := ⟨_, rfl⟩
          rw [← hx] at c0 hp
          obtain ⟨x1, x2⟩ := hp
          have hx3 : ¬ x < 1 := by omega
          clear hc hx x1 x2
          go_wp2_with fail
          go_roundw
          case rel => exact ⟨j + 1, by omega, by go_num, trivial⟩
          case measure => simp [intOf]; omega
        · obtain rfl : j = N := by omega
          by_cases h0 : j = 0
          · subst h0
            go_wp2_with fail
            go_ret
            exact ⟨rfl, HB8.out⟩
          · have hC0 : C = 0 := by
              rcases HBK.out.one with h | h
              · exact absurd (by rw [HN.out, h]; rfl) h0
              · exact h
            subst hC0
            have hj0 : ((j : Int) == 0) = false := by simp; omega
            go_wp2_with fail
            go_ret
            exact ⟨rfl, HB8.out⟩
end Go.Proofs.YtnbnfifgajfomaaDoor
