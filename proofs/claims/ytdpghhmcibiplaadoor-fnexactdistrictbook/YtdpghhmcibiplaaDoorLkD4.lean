/-
  The model's DistrictBook.
-/
import Derived.Test.YtdpghhmcibiplaaDoorLkD3
import Derived.Deep.DeepCutAuto
namespace Go.Proofs.YtdpghhmcibiplaaDoor
open Go.RowKit Go.Deep

set_option maxRecDepth 100000 in
set_option maxHeartbeats 8000000 in
theorem sDistrict_any (a : Option Addr) (ka : Nat) (b : Option Addr) (kb : Nat) (c : Option Addr) (kc : Nat) (d : Di.D) (w : World) (h : DiAt a b c d w) (u1 : d.n ≤ 1048576) (u2 : d.m ≤ 1048576) (u3 : d.q ≤ 1048576) :
    Calls Tryd.prog 51 #[diV a d.n ka b d.m kb c d.q kc] w fun e w' => e = .returned (doV (Di.lostA d) (Di.worstA d) (Di.code d)) ∧ Below w.heap.size w w' := by
  obtain ⟨W, hW⟩ : ∃ W, W = (w.alloc (.cells #[.slice a d.n ka, .slice b d.m kb, .slice c d.q kc] 85)).alloc (.cells #[.int .i64 0, .int .i64 0, .int .i64 0] 83) := ⟨_, rfl⟩
  have HS : Hid (BkS w a ka b kb c kc d W) := by
    have hb : Below w.heap.size w W := by rw [hW]; exact (nbel_alloc _ _).alloc (by simp) _
    refine ⟨h, ?_, ?_, hb⟩
    · rw [hW]; exact nrow_below (rowN_alloc w (diL a d.n ka b d.m kb c d.q kc) _) (nbel_alloc _ _)
    · rw [hW]; exact rowN_alloc' (by simp) (doL 0 0 0) _
  have HW := Lib.hid hW
  clear hW h
  go_enter Tryd.func51, Tryd.ntmps51
  go_upto_region 1 with fail
  rw [← HW.out]
  clear HW
  obtain ⟨⟨r0, r1, r2⟩, _, _, _⟩ := rowN3 HS.out.row
  have l0 := HS.out.row.lt
  by_cases g1 : 400 < d.n
  · have g1z : (400 : Int) < (d.n : Int) := by omega
    have hc := Di.code_size (d := d) (Or.inl g1)
    have HC := Lib.hid hc
    have HZ := Lib.hid (Di.bad_zero (d := d) (by rw [hc]; decide))
    clear hc
    obtain ⟨⟨o0, o1, o2⟩, z0, z1, z2⟩ := rowN3 HS.out.out
    go_wp2_with fail
    exact bodyPost_ret (v := doV 0 0 2) (by simp [results, Tryd.results51, go_sem, o0, o1, o2]) rfl ⟨by rw [HC.out, HZ.out.1, HZ.out.2], nbelow_set3 HS.out.old (by omega) _ _ _⟩
  have m1 : (d.n : Int) ≤ 400 := by omega
  by_cases g2 : 400 < d.m
  · have g2z : (400 : Int) < (d.m : Int) := by omega
    have hc := Di.code_size (d := d) (Or.inr (Or.inl g2))
    have HC := Lib.hid hc
    have HZ := Lib.hid (Di.bad_zero (d := d) (by rw [hc]; decide))
    clear hc
    obtain ⟨⟨o0, o1, o2⟩, z0, z1, z2⟩ := rowN3 HS.out.out
    go_wp2_with fail
    exact bodyPost_ret (v := doV 0 0 2) (by simp [results, Tryd.results51, go_sem, o0, o1, o2]) rfl ⟨by rw [HC.out, HZ.out.1, HZ.out.2], nbelow_set3 HS.out.old (by omega) _ _ _⟩
  have m2 : (d.m : Int) ≤ 400 := by omega
  by_cases g3 : 400 < d.q
  · have g3z : (400 : Int) < (d.q : Int) := by omega
    have hc := Di.code_size (d := d) (Or.inr (Or.inr g3))
    have HC := Lib.hid hc
    have HZ := Lib.hid (Di.bad_zero (d := d) (by rw [hc]; decide))
    clear hc
    obtain ⟨⟨o0, o1, o2⟩, z0, z1, z2⟩ := rowN3 HS.out.out
    go_wp2_with fail
    exact bodyPost_ret (v := doV 0 0 2) (by simp [results, Tryd.results51, go_sem, o0, o1, o2]) rfl ⟨by rw [HC.out, HZ.out.1, HZ.out.2], nbelow_set3 HS.out.old (by omega) _ _ _⟩
  have m3 : (d.q : Int) ≤ 400 := by omega
  have h4 : ¬ (400 < d.n ∨ 400 < d.m ∨ 400 < d.q) := by omega
  have H4 := Lib.hid h4
  clear g1 g2 g3 h4
  by_cases h5 : d.m = d.n
  rotate_left
  · have n1 : ((d.m : Int) != (d.n : Int)) = true := by simp; omega
    have hc := Di.code_len H4.out (Or.inl h5)
    have HC := Lib.hid hc
    have HZ := Lib.hid (Di.bad_zero (d := d) (by rw [hc]; decide))
    clear hc h5
    obtain ⟨⟨o0, o1, o2⟩, z0, z1, z2⟩ := rowN3 HS.out.out
    go_wp2_with fail
    exact bodyPost_ret (v := doV 0 0 1) (by simp [results, Tryd.results51, go_sem, o0, o1, o2]) rfl ⟨by rw [HC.out, HZ.out.1, HZ.out.2], nbelow_set3 HS.out.old (by omega) _ _ _⟩
  have n1 : ((d.m : Int) != (d.n : Int)) = false := by simp; omega
  by_cases h6 : d.q = d.n
  rotate_left
  · have n2 : ((d.q : Int) != (d.n : Int)) = true := by simp; omega
    have hc := Di.code_len H4.out (Or.inr h6)
    have HC := Lib.hid hc
    have HZ := Lib.hid (Di.bad_zero (d := d) (by rw [hc]; decide))
    clear hc h5 h6
    obtain ⟨⟨o0, o1, o2⟩, z0, z1, z2⟩ := rowN3 HS.out.out
    go_wp2_with fail
    exact bodyPost_ret (v := doV 0 0 1) (by simp [results, Tryd.results51, go_sem, o0, o1, o2]) rfl ⟨by rw [HC.out, HZ.out.1, HZ.out.2], nbelow_set3 HS.out.old (by omega) _ _ _⟩
  have n2 : ((d.q : Int) != (d.n : Int)) = false := by simp; omega
  have HK := Lib.hid (show ¬ (d.m ≠ d.n ∨ d.q ≠ d.n) from fun h => by omega)
  have H5 := Lib.hid h5
  have H6 := Lib.hid h6
  clear h5 h6
  cases k1 : Di.okB d.n d.f
  · have hc := Di.code_num H4.out HK.out (by rw [k1]; rfl)
    have HC := Lib.hid hc
    have HZ := Lib.hid (Di.bad_zero (d := d) (by rw [hc]; decide))
    clear hc
    obtain ⟨⟨o0, o1, o2⟩, z0, z1, z2⟩ := rowN3 HS.out.out
    go_wp2_with fail
    refine (dall_any a d.n _ d.f _ HS.out.now.a (by omega)).mono ?_
    rintro e w3 ⟨rfl, hww⟩
    subst hww
    rw [k1]
    go_wp2_with fail
    exact bodyPost_ret (v := doV 0 0 1) (by simp [results, Tryd.results51, go_sem, o0, o1, o2]) rfl ⟨by rw [HC.out, HZ.out.1, HZ.out.2], nbelow_set3 HS.out.old (by omega) _ _ _⟩
  cases k2 : Di.okB d.m d.g
  · have hc := Di.code_num H4.out HK.out (by rw [← H5.out, k2, Bool.false_and, Bool.and_false])
    have HC := Lib.hid hc
    have HZ := Lib.hid (Di.bad_zero (d := d) (by rw [hc]; decide))
    clear hc
    obtain ⟨⟨o0, o1, o2⟩, z0, z1, z2⟩ := rowN3 HS.out.out
    go_wp2_with fail
    refine (dall_any a d.n _ d.f _ HS.out.now.a (by omega)).mono ?_
    rintro e w3 ⟨rfl, hww⟩
    subst hww
    rw [k1]
    go_wp2_with fail
    refine (dall_any b d.m _ d.g _ HS.out.now.b (by omega)).mono ?_
    rintro e w4 ⟨rfl, hww⟩
    subst hww
    rw [k2]
    go_wp2_with fail
    exact bodyPost_ret (v := doV 0 0 1) (by simp [results, Tryd.results51, go_sem, o0, o1, o2]) rfl ⟨by rw [HC.out, HZ.out.1, HZ.out.2], nbelow_set3 HS.out.old (by omega) _ _ _⟩
  cases k3 : Di.okB d.q d.h
  · have hc := Di.code_num H4.out HK.out (by rw [← H6.out, k3, Bool.and_false, Bool.and_false])
    have HC := Lib.hid hc
    have HZ := Lib.hid (Di.bad_zero (d := d) (by rw [hc]; decide))
    clear hc
    obtain ⟨⟨o0, o1, o2⟩, z0, z1, z2⟩ := rowN3 HS.out.out
    go_wp2_with fail
    refine (dall_any a d.n _ d.f _ HS.out.now.a (by omega)).mono ?_
    rintro e w3 ⟨rfl, hww⟩
    subst hww
    rw [k1]
    go_wp2_with fail
    refine (dall_any b d.m _ d.g _ HS.out.now.b (by omega)).mono ?_
    rintro e w4 ⟨rfl, hww⟩
    subst hww
    rw [k2]
    go_wp2_with fail
    refine (dall_any c d.q _ d.h _ HS.out.now.c (by omega)).mono ?_
    rintro e w5 ⟨rfl, hww⟩
    subst hww
    rw [k3]
    go_wp2_with fail
    exact bodyPost_ret (v := doV 0 0 1) (by simp [results, Tryd.results51, go_sem, o0, o1, o2]) rfl ⟨by rw [HC.out, HZ.out.1, HZ.out.2], nbelow_set3 HS.out.old (by omega) _ _ _⟩
  have HC := Lib.hid (Di.code_ok H4.out HK.out (by rw [k1, show Di.okB d.n d.g = true by rw [← H5.out]; exact k2, show Di.okB d.n d.h = true by rw [← H6.out]; exact k3]; rfl))
  have HO1 := Lib.hid (Di.okB_iff.1 k1)
  have HO2 : Hid (Di.Ok d.n d.g) := by show Di.Ok _ _; rw [← H5.out]; exact Di.okB_iff.1 k2
  have HO3 : Hid (Di.Ok d.n d.h) := by show Di.Ok _ _; rw [← H6.out]; exact Di.okB_iff.1 k3
  go_wp2_with fail
  refine (dall_any a d.n _ d.f _ HS.out.now.a (by omega)).mono ?_
  rintro e w3 ⟨rfl, hww⟩
  subst hww
  rw [k1]
  go_wp2_with fail
  refine (dall_any b d.m _ d.g _ HS.out.now.b (by omega)).mono ?_
  rintro e w4 ⟨rfl, hww⟩
  subst hww
  rw [k2]
  go_wp2_with fail
  refine (dall_any c d.q _ d.h _ HS.out.now.c (by omega)).mono ?_
  rintro e w5 ⟨rfl, hww⟩
  subst hww
  rw [k3]
  go_wp2_with fail
  clear r0 r1 r2 l0 n1 n2 k1 k2 k3
  have HL : Hid (BkS w a ka b kb c kc d (w5.alloc (.cells #[.int .i64 0, .int .i64 (-1), .int .i64 0] 83)) ∧ (w5.alloc (.cells #[.int .i64 0, .int .i64 (-1), .int .i64 0] 83)).rowIs w5.heap.size 83 3 (rowN (doL (Di.sum d 0) (Di.worst d 0).1 0)) ∧ w.heap.size + 1 < w5.heap.size) := ⟨HS.out.below (nbel_alloc _ _), rowN_alloc w5 (doL 0 (-1) 0) _, HS.out.out.lt⟩
  generalize (w5.alloc (.cells #[.int .i64 0, .int .i64 (-1), .int .i64 0] 83)) = w6 at *
  generalize w5.heap.size = gO at *
  have hgO := HL.out.2.2
  clear HS
  go_loopw [5, 6, 7] (fun mv iv _ wx => ∃ k : Nat, k ≤ d.n ∧ iv = .int .i64 k ∧ mv = .int .i64 (Di.worst d k).2 ∧ Hid (BkS w a ka b kb c kc d wx ∧ wx.rowIs gO 83 3 (rowN (doL (Di.sum d k) (Di.worst d k).1 0)))) (fun _ iv _ _ => d.n - (intOf iv).toNat)
  case atStart => exact ⟨0, Nat.zero_le _, rfl, rfl, HL.out.1, HL.out.2.1⟩
  case round =>
    obtain ⟨k, hk, rfl, rfl, hS⟩ := hrel
    clear HL
    obtain ⟨⟨o0, o1, o2⟩, z0, z1, z2⟩ := rowN3 hS.out.2
    by_cases hlt : k < d.n
    · have hltz : (k : Int) < (d.n : Int) := by omega
      have hltb : (k : Int) < (d.m : Int) := by have := H5.out; omega
      have hltc : (k : Int) < (d.q : Int) := by have := H6.out; omega
      have hk0 : (0 : Int) ≤ (k : Int) := by omega
      obtain ⟨g1, rfl, c1⟩ := hS.out.1.now.a.at1 hlt
      obtain ⟨g2, rfl, c2⟩ := hS.out.1.now.b.at1 (i := k) (by have := H5.out; omega)
      obtain ⟨g3, rfl, c3⟩ := hS.out.1.now.c.at1 (i := k) (by have := H6.out; omega)
      obtain ⟨⟨r0, r1, r2⟩, _, _, _⟩ := rowN3 hS.out.1.row
      have l0 := hS.out.1.row.lt
      have b1 := HO1.out k hlt
      have b2 := HO2.out k hlt
      have b3 := HO3.out k hlt
      have b4 := Di.sum_bd HO1.out HO2.out HO3.out k hk
      have b5 := Di.lost_bd HO1.out HO2.out HO3.out hlt
      have e1 : Di.lost d k = d.f k - d.g k - d.h k := rfl
      have e2 : Di.sum d (k + 1) = Di.sum d k + Di.lost d k := rfl
      go_wp2_with fail
      go_region
      have e3 : d.f k - d.g k - d.h k = Di.lost d k := rfl
      rw [e3]
      have HT := Lib.hid (Di.worst_take (d := d) (k := k))
      have HP := Lib.hid (Di.worst_keep (d := d) (k := k))
      have HE2 := Lib.hid e2
      clear e1 e3 e2 r0 r1 r2 c1 c2 c3 b1 b2 b3
      generalize Di.lost d k = x at *
      have hwn := Di.worst_none d k
      have b6 : (k : Int) ≤ 400 := by omega
      by_cases h0 : k = 0
      · have hw1 : ((k : Int) == 0) = true := by simp; omega
        have HT2 := Lib.hid (HT.out (Or.inl h0))
        clear hwn h0 HT HP
        go_wp2_with fail
        go_roundw
        case rel => exact ⟨k + 1, by omega, by go_num, by rw [HT2.out], (hS.out.1.drew.set hgO _ _).set hgO _ _, by rw [HT2.out, HE2.out]; exact rowN_put (rowN_put (nrow_below hS.out.2 (Below.refl _ _).drew) 0 _ (by simp)) 1 _ (by simp)⟩
        case measure => simp [intOf]; omega
      · have hw1 : ((k : Int) == 0) = false := by simp; omega
        by_cases h1 : (Di.worst d k).2 < x
        · have HT2 := Lib.hid (HT.out (Or.inr h1))
          clear hwn h0 HT HP
          go_wp2_with fail
          go_roundw
          case rel => exact ⟨k + 1, by omega, by go_num, by rw [HT2.out], (hS.out.1.drew.set hgO _ _).set hgO _ _, by rw [HT2.out, HE2.out]; exact rowN_put (rowN_put (nrow_below hS.out.2 (Below.refl _ _).drew) 0 _ (by simp)) 1 _ (by simp)⟩
          case measure => simp [intOf]; omega
        · have HT2 := Lib.hid (HP.out (fun h => by rcases h with h | h; exact h0 h; exact h1 h))
          clear hwn h0 HT HP
          go_wp2_with fail
          go_roundw
          case rel => exact ⟨k + 1, by omega, by go_num, by rw [HT2.out], hS.out.1.drew.set hgO _ _, by rw [HT2.out, HE2.out]; exact rowN_put (nrow_below hS.out.2 (Below.refl _ _).drew) 0 _ (by simp)⟩
          case measure => simp [intOf]; omega
    · obtain rfl : k = d.n := by omega
      have HL1 := Lib.hid (Di.ok_zero HC.out)
      obtain ⟨⟨p0, p1, p2⟩, y0, y1, y2⟩ := rowN3 hS.out.1.out
      have lo := hS.out.1.out.lt
      go_wp2_with fail
      exact bodyPost_ret (v := doV (Di.sum d d.n) (Di.worst d d.n).1 0) (by simp [results, Tryd.results51, go_sem, p0, p1, p2]) rfl ⟨by rw [HC.out, HL1.out.1, HL1.out.2], nbelow_set3 hS.out.1.old (by omega) _ _ _⟩
end Go.Proofs.YtdpghhmcibiplaaDoor
