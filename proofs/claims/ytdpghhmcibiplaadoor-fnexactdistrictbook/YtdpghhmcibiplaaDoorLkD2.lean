/-
  The program's book of a district.
-/
import Derived.Test.YtdpghhmcibiplaaDoorLkD1
import Derived.Deep.DeepCutAuto
namespace Go.Proofs.YtdpghhmcibiplaaDoor
open Go.RowKit Go.Deep

/-- What is told of a district. -/
abbrev doV (x y z : Int) : Value := .agg #[.int .i64 x, .int .i64 y, .int .i64 z]
abbrev doL (x y z : Int) : List Value := [.int .i64 x, .int .i64 y, .int .i64 z]
structure DiAt (a b c : Option Addr) (d : Di.D) (w : World) : Prop where
  a : IsAt a d.n d.f w
  b : IsAt b d.m d.g w
  c : IsAt c d.q d.h w
theorem DiAt.below {a b c : Option Addr} {d : Di.D} {w w' : World} (h : DiAt a b c d w) (hb : Below w.heap.size w w') : DiAt a b c d w' := ⟨h.a.below hb, h.b.below hb, h.c.below hb⟩
def BkEnd (d : Di.D) (e : Ending) : Prop := (Di.code d = 0 ∧ e = .returned (.tuple #[doV (Di.lostA d) (Di.worstA d) 0, .nilIface])) ∨ (Di.code d ≠ 0 ∧ ∃ er, ErrIs er (Di.code d) ∧ e = .returned (.tuple #[doV 0 0 0, er]))
/-- What lies there when a book is begun. -/
structure BkS (w : World) (a : Option Addr) (ka : Nat) (b : Option Addr) (kb : Nat) (c : Option Addr) (kc : Nat) (d : Di.D) (W : World) : Prop where
  at_ : DiAt a b c d w
  row : W.rowIs w.heap.size 85 3 (rowN (diL a d.n ka b d.m kb c d.q kc))
  out : W.rowIs (w.heap.size + 1) 83 3 (rowN (doL 0 0 0))
  old : Below w.heap.size w W
theorem BkS.below {w : World} {a : Option Addr} {ka : Nat} {b : Option Addr} {kb : Nat} {c : Option Addr} {kc : Nat} {d : Di.D} {W W' : World} (h : BkS w a ka b kb c kc d W) (hb : Below W.heap.size W W') : BkS w a ka b kb c kc d W' :=
  ⟨h.at_, nrow_below h.row hb, nrow_below h.out hb, h.old.trans (hb.mono h.old.size)⟩
theorem BkS.now {w : World} {a : Option Addr} {ka : Nat} {b : Option Addr} {kb : Nat} {c : Option Addr} {kc : Nat} {d : Di.D} {W : World} (h : BkS w a ka b kb c kc d W) : DiAt a b c d W := h.at_.below h.old
theorem BkS.drew {w : World} {a : Option Addr} {ka : Nat} {b : Option Addr} {kb : Nat} {c : Option Addr} {kc : Nat} {d : Di.D} {W : World} (h : BkS w a ka b kb c kc d W) : BkS w a ka b kb c kc d W.drew := h.below (Below.refl _ _).drew
theorem BkS.set {w : World} {a : Option Addr} {ka : Nat} {b : Option Addr} {kb : Nat} {c : Option Addr} {kc : Nat} {d : Di.D} {W : World} (h : BkS w a ka b kb c kc d W) {g : Nat} (hg : w.heap.size + 1 < g) (i : Nat) (v : Value) : BkS w a ka b kb c kc d (W.setCell ⟨g, i, none⟩ v) := by
  have hb : Below g W (W.setCell ⟨g, i, none⟩ v) := (Below.refl g W).setCell (p := ⟨g, i, none⟩) (Nat.le_refl _) v
  exact ⟨h.at_, h.row.of_block (hb.block _ (by omega)), h.out.of_block (hb.block _ (by omega)), h.old.setCell (p := ⟨g, i, none⟩) (by show _ ≤ g; omega) v⟩
theorem nbelow_set3 {w W : World} {g : Nat} (h : Below w.heap.size w W) (hg : w.heap.size ≤ g) (x y z : Value) : Below w.heap.size w (((W.setCell ⟨g, 0, none⟩ x).setCell ⟨g, 1, none⟩ y).setCell ⟨g, 2, none⟩ z) :=
  ((h.setCell (p := ⟨g, 0, none⟩) hg x).setCell (p := ⟨g, 1, none⟩) hg y).setCell (p := ⟨g, 2, none⟩) hg z

set_option maxRecDepth 100000 in
set_option maxHeartbeats 8000000 in
theorem book_any (a : Option Addr) (ka : Nat) (b : Option Addr) (kb : Nat) (c : Option Addr) (kc : Nat) (d : Di.D) (w : World) (h : DiAt a b c d w) (u1 : d.n ≤ 1048576) (u2 : d.m ≤ 1048576) (u3 : d.q ≤ 1048576) :
    Calls Tryd.prog 97 #[diV a d.n ka b d.m kb c d.q kc] w fun e w' => BkEnd d e ∧ Below w.heap.size w w' := by
  obtain ⟨W, hW⟩ : ∃ W, W = (w.alloc (.cells #[.slice a d.n ka, .slice b d.m kb, .slice c d.q kc] 85)).alloc (.cells #[.int .i64 0, .int .i64 0, .int .i64 0] 83) := ⟨_, rfl⟩
  have HS : Hid (BkS w a ka b kb c kc d W) := by
    have hb : Below w.heap.size w W := by rw [hW]; exact (nbel_alloc _ _).alloc (by simp) _
    refine ⟨h, ?_, ?_, hb⟩
    · rw [hW]; exact nrow_below (rowN_alloc w (diL a d.n ka b d.m kb c d.q kc) _) (nbel_alloc _ _)
    · rw [hW]; exact rowN_alloc' (by simp) (doL 0 0 0) _
  have HW := Lib.hid hW
  clear hW h
  go_enter Tryd.func97, Tryd.ntmps97
  go_upto_region 1 with fail
  rw [← HW.out]
  clear HW
  obtain ⟨⟨r0, r1, r2⟩, _, _, _⟩ := rowN3 HS.out.row
  have l0 := HS.out.row.lt
  by_cases h4 : 400 < d.n ∨ 400 < d.m ∨ 400 < d.q
  · have HC := Lib.hid (Di.code_size h4)
    obtain ⟨⟨o0, o1, o2⟩, z0, z1, z2⟩ := rowN3 HS.out.out
    go_wp2_with fail
    all_goals exact bodyPost_ret (v := .tuple #[doV 0 0 0, errV ⟨#[116, 104, 101, 32, 112, 108, 97, 99, 101, 115, 32, 111, 102, 32, 97, 32, 100, 105, 115, 116, 114, 105, 99, 116]⟩ 2]) (by simp [results, Tryd.results97, go_sem, o0, o1, o2]) rfl ⟨Or.inr ⟨by rw [HC.out]; decide, _, by rw [HC.out]; exact errIs_one _ _, rfl⟩, nbelow_set3 HS.out.old (by omega) _ _ _⟩
  have m1 : (d.n : Int) ≤ 400 := by omega
  have m2 : (d.m : Int) ≤ 400 := by omega
  have m3 : (d.q : Int) ≤ 400 := by omega
  go_cut [19] from 9 to 18 (fun q wx => q = .bool false ∧ wx = W)
  case first =>
    go_wp2_with fail
    all_goals (go_meet; case rel => exact ⟨by simp; omega, rfl⟩)
  case rest =>
    obtain ⟨rfl, hwc⟩ := hcut
    subst hwc
    by_cases h5 : d.m = d.n
    rotate_left
    · have HC := Lib.hid (Di.code_len h4 (Or.inl h5))
      have n1 : ((d.m : Int) != (d.n : Int)) = true := by simp; omega
      clear h5
      obtain ⟨⟨o0, o1, o2⟩, z0, z1, z2⟩ := rowN3 HS.out.out
      go_wp2_with fail
      exact bodyPost_ret (v := .tuple #[doV 0 0 0, errV ⟨#[116, 104, 101, 32, 108, 105, 115, 116, 115, 32, 111, 102, 32, 97, 32, 100, 105, 115, 116, 114, 105, 99, 116]⟩ 1]) (by simp [results, Tryd.results97, go_sem, o0, o1, o2]) rfl ⟨Or.inr ⟨by rw [HC.out]; decide, _, by rw [HC.out]; exact errIs_one _ _, rfl⟩, nbelow_set3 HS.out.old (by omega) _ _ _⟩
    have n1 : ((d.m : Int) != (d.n : Int)) = false := by simp; omega
    by_cases h6 : d.q = d.n
    rotate_left
    · have HC := Lib.hid (Di.code_len h4 (Or.inr h6))
      have n2 : ((d.q : Int) != (d.n : Int)) = true := by simp; omega
      clear h5 h6
      obtain ⟨⟨o0, o1, o2⟩, z0, z1, z2⟩ := rowN3 HS.out.out
      go_wp2_with fail
      exact bodyPost_ret (v := .tuple #[doV 0 0 0, errV ⟨#[116, 104, 101, 32, 108, 105, 115, 116, 115, 32, 111, 102, 32, 97, 32, 100, 105, 115, 116, 114, 105, 99, 116]⟩ 1]) (by simp [results, Tryd.results97, go_sem, o0, o1, o2]) rfl ⟨Or.inr ⟨by rw [HC.out]; decide, _, by rw [HC.out]; exact errIs_one _ _, rfl⟩, nbelow_set3 HS.out.old (by omega) _ _ _⟩
    have n2 : ((d.q : Int) != (d.n : Int)) = false := by simp; omega
    have HK := Lib.hid (show ¬ (d.m ≠ d.n ∨ d.q ≠ d.n) from fun h => by omega)
    have H5 := Lib.hid h5
    have H6 := Lib.hid h6
    clear h5 h6
    cases k1 : Di.okB d.n d.f
    · have HC := Lib.hid (Di.code_num h4 HK.out (by rw [k1]; rfl))
      obtain ⟨⟨o0, o1, o2⟩, z0, z1, z2⟩ := rowN3 HS.out.out
      go_wp2_with fail
      refine (dflows_any a d.n _ d.f _ HS.out.now.a (by omega)).mono ?_
      rintro e w3 ⟨rfl, hww⟩
      subst hww
      rw [k1]
      go_wp2_with fail
      exact bodyPost_ret (v := .tuple #[doV 0 0 0, errV ⟨#[97, 32, 110, 117, 109, 98, 101, 114, 32, 111, 102, 32, 97, 32, 100, 105, 115, 116, 114, 105, 99, 116]⟩ 1]) (by simp [results, Tryd.results97, go_sem, o0, o1, o2]) rfl ⟨Or.inr ⟨by rw [HC.out]; decide, _, by rw [HC.out]; exact errIs_one _ _, rfl⟩, nbelow_set3 HS.out.old (by omega) _ _ _⟩
    cases k2 : Di.okB d.m d.g
    · have HC := Lib.hid (Di.code_num h4 HK.out (by rw [← H5.out, k2, Bool.false_and, Bool.and_false]))
      obtain ⟨⟨o0, o1, o2⟩, z0, z1, z2⟩ := rowN3 HS.out.out
      go_wp2_with fail
      refine (dflows_any a d.n _ d.f _ HS.out.now.a (by omega)).mono ?_
      rintro e w3 ⟨rfl, hww⟩
      subst hww
      rw [k1]
      go_wp2_with fail
      refine (dflows_any b d.m _ d.g _ HS.out.now.b (by omega)).mono ?_
      rintro e w4 ⟨rfl, hww⟩
      subst hww
      rw [k2]
      go_wp2_with fail
      exact bodyPost_ret (v := .tuple #[doV 0 0 0, errV ⟨#[97, 32, 110, 117, 109, 98, 101, 114, 32, 111, 102, 32, 97, 32, 100, 105, 115, 116, 114, 105, 99, 116]⟩ 1]) (by simp [results, Tryd.results97, go_sem, o0, o1, o2]) rfl ⟨Or.inr ⟨by rw [HC.out]; decide, _, by rw [HC.out]; exact errIs_one _ _, rfl⟩, nbelow_set3 HS.out.old (by omega) _ _ _⟩
    cases k3 : Di.okB d.q d.h
    · have HC := Lib.hid (Di.code_num h4 HK.out (by rw [← H6.out, k3, Bool.and_false, Bool.and_false]))
      obtain ⟨⟨o0, o1, o2⟩, z0, z1, z2⟩ := rowN3 HS.out.out
      go_wp2_with fail
      refine (dflows_any a d.n _ d.f _ HS.out.now.a (by omega)).mono ?_
      rintro e w3 ⟨rfl, hww⟩
      subst hww
      rw [k1]
      go_wp2_with fail
      refine (dflows_any b d.m _ d.g _ HS.out.now.b (by omega)).mono ?_
      rintro e w4 ⟨rfl, hww⟩
      subst hww
      rw [k2]
      go_wp2_with fail
      refine (dflows_any c d.q _ d.h _ HS.out.now.c (by omega)).mono ?_
      rintro e w5 ⟨rfl, hww⟩
      subst hww
      rw [k3]
      go_wp2_with fail
      exact bodyPost_ret (v := .tuple #[doV 0 0 0, errV ⟨#[97, 32, 110, 117, 109, 98, 101, 114, 32, 111, 102, 32, 97, 32, 100, 105, 115, 116, 114, 105, 99, 116]⟩ 1]) (by simp [results, Tryd.results97, go_sem, o0, o1, o2]) rfl ⟨Or.inr ⟨by rw [HC.out]; decide, _, by rw [HC.out]; exact errIs_one _ _, rfl⟩, nbelow_set3 HS.out.old (by omega) _ _ _⟩
    have HC := Lib.hid (Di.code_ok h4 HK.out (by rw [k1, show Di.okB d.n d.g = true by rw [← H5.out]; exact k2, show Di.okB d.n d.h = true by rw [← H6.out]; exact k3]; rfl))
    have HO1 := Lib.hid (Di.okB_iff.1 k1)
    have HO2 : Hid (Di.Ok d.n d.g) := by show Di.Ok _ _; rw [← H5.out]; exact Di.okB_iff.1 k2
    have HO3 : Hid (Di.Ok d.n d.h) := by show Di.Ok _ _; rw [← H6.out]; exact Di.okB_iff.1 k3
    go_wp2_with fail
    refine (dflows_any a d.n _ d.f _ HS.out.now.a (by omega)).mono ?_
    rintro e w3 ⟨rfl, hww⟩
    subst hww
    rw [k1]
    go_wp2_with fail
    refine (dflows_any b d.m _ d.g _ HS.out.now.b (by omega)).mono ?_
    rintro e w4 ⟨rfl, hww⟩
    subst hww
    rw [k2]
    go_wp2_with fail
    refine (dflows_any c d.q _ d.h _ HS.out.now.c (by omega)).mono ?_
    rintro e w5 ⟨rfl, hww⟩
    subst hww
    rw [k3]
    go_wp2_with fail
    clear r0 r1 r2 l0 n1 n2 k1 k2 k3
    have HL : Hid (BkS w a ka b kb c kc d (w5.alloc (.cells #[.int .i64 0, .int .i64 (-1), .int .i64 0] 83)) ∧ (w5.alloc (.cells #[.int .i64 0, .int .i64 (-1), .int .i64 0] 83)).rowIs w5.heap.size 83 3 (rowN (doL (Di.sum d 0) (Di.worst d 0).1 0)) ∧ w.heap.size + 1 < w5.heap.size) := ⟨HS.out.below (nbel_alloc _ _), rowN_alloc w5 (doL 0 (-1) 0) _, HS.out.out.lt⟩
    generalize (w5.alloc (.cells #[.int .i64 0, .int .i64 (-1), .int .i64 0] 83)) = w6 at *
    generalize w5.heap.size = gO at *
    have hgO := HL.out.2.2
    clear HS
    go_loopw [5, 6, 7, 8, 71] (fun mv _ _ _ iv wx => ∃ k : Nat, k ≤ d.n ∧ iv = .int .i64 k ∧ mv = .int .i64 (Di.worst d k).2 ∧ Hid (BkS w a ka b kb c kc d wx ∧ wx.rowIs gO 83 3 (rowN (doL (Di.sum d k) (Di.worst d k).1 0)))) (fun _ _ _ _ iv _ => d.n - (intOf iv).toNat)
    case atStart => exact ⟨0, Nat.zero_le _, rfl, rfl, HL.out.1, HL.out.2.1⟩
    case round =>
      obtain ⟨k, hk, rfl, rfl, hS⟩ := hrel
      clear HL
      obtain ⟨⟨o0, o1, o2⟩, z0, z1, z2⟩ := rowN3 hS.out.2
      by_cases hlt : k < d.n
      · have hltz : (k : Int) < (d.n : Int) := by omega
        have hltb : (k : Int) < (d.m : Int) := by have := H5.out; omega
        have hltc : (k : Int) < (d.q : Int) := by have := H6.out; omega
        have hk0 : (0 : Int) ≤ (k : Int) := by omega
        obtain ⟨g1, rfl, c1⟩ := hS.out.1.now.a.at1 hlt
        obtain ⟨g2, rfl, c2⟩ := hS.out.1.now.b.at1 (i := k) (by have := H5.out; omega)
        obtain ⟨g3, rfl, c3⟩ := hS.out.1.now.c.at1 (i := k) (by have := H6.out; omega)
        obtain ⟨⟨r0, r1, r2⟩, _, _, _⟩ := rowN3 hS.out.1.row
        have l0 := hS.out.1.row.lt
        have b1 := HO1.out k hlt
        have b2 := HO2.out k hlt
        have b3 := HO3.out k hlt
        have b4 := Di.sum_bd HO1.out HO2.out HO3.out k hk
        have b5 := Di.lost_bd HO1.out HO2.out HO3.out hlt
        have e1 : Di.lost d k = d.f k - d.g k - d.h k := rfl
        have e2 : Di.sum d (k + 1) = Di.sum d k + Di.lost d k := rfl
        go_wp2_with fail
        go_region
        have e3 : d.f k - d.g k - d.h k = Di.lost d k := rfl
        rw [e3]
        have HT := Lib.hid (Di.worst_take (d := d) (k := k))
        have HP := Lib.hid (Di.worst_keep (d := d) (k := k))
        have HE2 := Lib.hid e2
        clear e1 e3 e2 r0 r1 r2 c1 c2 c3 b1 b2 b3
        generalize Di.lost d k = x at *
        have hwn := Di.worst_none d k
        have b6 : (k : Int) ≤ 400 := by omega
        by_cases h0 : k = 0
        · have hw1 : ((Di.worst d k).1 == -1) = true := by rw [hwn]; simp [h0]
          have HT2 := Lib.hid (HT.out (Or.inl h0))
          clear hwn h0 HT HP
          go_wp2_with fail
          go_roundw
          case rel => exact ⟨k + 1, by omega, by go_num, by rw [HT2.out], (hS.out.1.drew.set hgO _ _).set hgO _ _, by rw [HT2.out, HE2.out]; exact rowN_put (rowN_put (nrow_below hS.out.2 (Below.refl _ _).drew) 0 _ (by simp)) 1 _ (by simp)⟩
          case measure => simp [intOf]; omega
        · have hw1 : ((Di.worst d k).1 == -1) = false := by rw [hwn]; simp [h0]
          by_cases h1 : (Di.worst d k).2 < x
          · have HT2 := Lib.hid (HT.out (Or.inr h1))
            clear hwn h0 HT HP
            go_wp2_with fail
            go_roundw
            case rel => exact ⟨k + 1, by omega, by go_num, by rw [HT2.out], (hS.out.1.drew.set hgO _ _).set hgO _ _, by rw [HT2.out, HE2.out]; exact rowN_put (rowN_put (nrow_below hS.out.2 (Below.refl _ _).drew) 0 _ (by simp)) 1 _ (by simp)⟩
            case measure => simp [intOf]; omega
          · have HT2 := Lib.hid (HP.out (fun h => by rcases h with h | h; exact h0 h; exact h1 h))
            clear hwn h0 HT HP
            go_wp2_with fail
            go_roundw
            case rel => exact ⟨k + 1, by omega, by go_num, by rw [HT2.out], hS.out.1.drew.set hgO _ _, by rw [HT2.out, HE2.out]; exact rowN_put (nrow_below hS.out.2 (Below.refl _ _).drew) 0 _ (by simp)⟩
            case measure => simp [intOf]; omega
      · obtain rfl : k = d.n := by omega
        have HL1 := Lib.hid (show Di.lostA d = Di.sum d d.n by unfold Di.lostA; rw [if_pos HC.out])
        have HL2 := Lib.hid (show Di.worstA d = (Di.worst d d.n).1 by unfold Di.worstA; rw [if_pos HC.out])
        obtain ⟨⟨p0, p1, p2⟩, y0, y1, y2⟩ := rowN3 hS.out.1.out
        have lo := hS.out.1.out.lt
        go_wp2_with fail
        exact bodyPost_ret (v := .tuple #[doV (Di.sum d d.n) (Di.worst d d.n).1 0, .nilIface]) (by simp [results, Tryd.results97, go_sem, p0, p1, p2]) rfl ⟨Or.inl ⟨HC.out, by rw [HL1.out, HL2.out]⟩, nbelow_set3 hS.out.1.old (by omega) _ _ _⟩
end Go.Proofs.YtdpghhmcibiplaaDoor
