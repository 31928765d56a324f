/-
  Joined: NtPt, NtTd, LwAt, NtLawW.
-/
import Derived.Test.YtkaokfmaecdkiaaGreatDoorNtCgX
import Derived.Test.YtkaokfmaecdkiaaGreatDoorODraw
import Derived.Test.YtkaokfmaecdkiaaGreatDoorOpCommon
import Derived.Test.YtkaokfmaecdkiaaGreatDoorSource
import Derived.Test.YtkaokfmaecdkiaaGreatDoorEt
import Derived.BigQuiet
namespace Go.Proofs.YtkaokfmaecdkiaaGreatDoor
namespace Nt
theorem Sv.right {n : Net} (h : Sv n) {r : Nat} (hr : r < mm n) : Fq.R (svH n (nd n r)) := by
  rw [svH_free hr]
  obtain ⟨hR, h0⟩ := Um_piv h.r h.h h.g.rhs h.g.el
  exact El.hd_right hR h0 (mm n) (Nat.le_refl _) h.g.hd r (by omega) hr
theorem Sv.part {n : Net} (h : Sv n) {H : Nat → Int × Int} {hn : Nat} (hc : reCode n hn (cells2 H) = 0) {v : Nat} (hv : v < nn n) (hf : fixed n v = false) (hsame : ∀ u, u ≠ v → H u = svH n u) (hne : H v ≠ svH n v) : ∃ k, k < nn n ∧ fixed n k = false ∧ (rev n (cells2 H) k).1 ≠ 0 := by
  apply Classical.byContradiction
  intro hno
  have hz : ∀ k, k < nn n → fixed n k = false → (rev n (cells2 H) k).1 = 0 := fun k hk hkf => Classical.byContradiction (fun q => hno ⟨k, hk, hkf, q⟩)
  have hfl : flCode n hn (cells2 H) = 0 := by
    by_cases e : flCode n hn (cells2 H) = 0
    · exact e
    · rw [reCode_bad e] at hc; exact absurd hc e
  have RF := reFit hfl
  have hall : ∀ k, k < nn n → (fin n (cells2 H) k).isSome := by
    unfold reCode at hc
    rw [if_pos hfl] at hc
    by_cases a : ∀ k, k < nn n → (fin n (cells2 H) k).isSome
    · exact a
    · rw [if_neg a] at hc; cases hc
  have ex : (fun u => Fq.q (hd (cells2 H) u)) = xq H := by
    funext u
    unfold hd xq
    rw [cells2_0, cells2_1]
  have hx : ∀ u, fixed n u = true → xq H u = (((kh n n.fn u).1 : Int) : Rat) := by
    intro u hu
    have hne2 : u ≠ v := by rintro rfl; rw [hf] at hu; cases hu
    have e := svH_x h.r hu
    unfold xq at e ⊢
    rw [hsame u hne2]; exact e
  have HH : Holds (mm n) (fun r c => Fq.q (U0 n r c)) (fun c => xq H (nd n c)) := by
    refine (holds_iff h.r hx).2 (fun r hr => ?_)
    obtain ⟨hk, hkf⟩ := nd_lt hr
    obtain ⟨w, hw⟩ := Option.isSome_iff_exists.1 (hall _ hk)
    obtain ⟨h1, h2⟩ := fin_q RF hk hw
    rw [ex] at h2
    have h3 := hz _ hk hkf
    unfold rev at h3
    rw [hw] at h3
    have h4 : w.1 = 0 := h3
    have h5 := (Fq.q_zero h1).2 h4
    rw [h5] at h2
    grind
  have E := El.one (U0_sure h.r h.h) HH (svH_holds h.r h.h h.g)
  obtain ⟨r, hr, er⟩ := free_idx (n := n) hv hf
  have er2 : nd n r = v := er
  have hr2 : r < mm n := hr
  have e := E r hr2
  have e2 : Fq.q (H (nd n r)) = Fq.q (svH n (nd n r)) := e
  have hR := h.right hr2
  rw [er2] at e2 hR
  apply hne
  refine frac_eq ?_ hR e2
  have := RF.f.ok v (by have := RF.f.nn; omega)
  unfold hd at this
  rw [cells2_0, cells2_1] at this
  exact this
end Nt
end Go.Proofs.YtkaokfmaecdkiaaGreatDoor
namespace Go.Proofs.YtkaokfmaecdkiaaGreatDoor
open Go.RowKit

def NSlot (w W : World) : Prop := Below (w.heap.size + 1) (w.alloc (.cells #[.int .i64 0, .int .i64 0] 35)) W
theorem NSlot.start (w : World) : NSlot w (w.alloc (.cells #[.int .i64 0, .int .i64 0] 35)) := Below.refl _ _
theorem NSlot.size {w W : World} (h : NSlot w W) : w.heap.size + 1 ≤ W.heap.size := by have := Below.size h; simpa using this
theorem NSlot.next {w W W' : World} (h : NSlot w W) (hb : Below W.heap.size W W') : NSlot w W' := Below.trans h (hb.mono h.size)
theorem NSlot.below {w W : World} (h : NSlot w W) : Below w.heap.size w W := ((Below.refl _ _).alloc (Nat.le_refl _) _).trans (Below.mono h (by omega))
theorem NSlot.draw {w W W' : World} {sb : Nat} (h : NSlot w W) (hd : Drew sb W W') (hsb : w.heap.size + 1 ≤ sb) : NSlot w W' := Below.trans h (hd.2.below hsb h.size)
def NIn64 (a : Int) : Prop := -9223372036854775808 ≤ a ∧ a ≤ 9223372036854775807
set_option maxRecDepth 100000 in
set_option maxHeartbeats 1000000 in
theorem ndrawText_any (a : Option Addr) (len cap : Nat) (w : World) (h : Bytes a len w) (hl : len ≤ 1048576) :
    Calls Tryz.prog 9 #[.slice a len cap] w fun e w' => (∃ n d, e = .returned (.agg #[.int .i64 n, .int .i64 d]) ∧ NIn64 n ∧ NIn64 d) ∧ Below w.heap.size w w' := by
  have H : Hid (Bytes a len w) := h
  clear h
  go_enter Tryz.func9, Tryz.ntmps9
  go_wp2_with fail
  have S0 := NSlot.start w
  refine (source_any a len cap _ (H.out.below S0.below) (by omega)).mono ?_
  rintro e w1 ⟨rfl, hS1, hB1⟩
  have e2 : (w.alloc (.cells #[.int .i64 0, .int .i64 0] 35)).heap.size = w.heap.size + 1 := by simp
  have S1 : Hid (NSlot w w1) := S0.next hB1
  rw [e2] at hS1 ⊢
  clear e2
  have HS1 := Lib.hid hS1
  clear hS1 hB1 S0
  go_wp2_with fail
  refine (frac_any _ _ HS1.out).mono ?_
  rintro e w2 ⟨⟨n, d, rfl, k1, k2, k3, k4⟩, hD⟩
  have S2 : Hid (NSlot w w2) := S1.out.draw hD (Nat.le_refl _)
  clear hD S1 HS1
  obtain ⟨s0, s1, f0, f1, hz2⟩ := kept2 S2.out
  have HB : Hid (Below w.heap.size w w2) := S2.out.below
  clear S2
  go_wp2_with fail
  exact bodyPost_ret (v := .agg #[.int .i64 n, .int .i64 d]) (by simp [results, Tryz.results9, go_sem, s0, s1]) rfl ⟨⟨n, d, rfl, ⟨k1, k2⟩, ⟨k3, k4⟩⟩, below_set2 HB.out (Nat.le_refl _) _ _⟩
end Go.Proofs.YtkaokfmaecdkiaaGreatDoor
namespace Go.Proofs.YtkaokfmaecdkiaaGreatDoor
open Go.RowKit

set_option maxRecDepth 100000 in
set_option maxHeartbeats 1000000 in
theorem lwAt_any (a : Option Addr) (len cap : Nat) (at_ most : Int) (w : World) (h : Bytes a len w) (hl : len ≤ 4194304) (h0 : 0 ≤ at_) (h1 : at_ ≤ 1000) (hm : most ≤ 9223372036854775807) :
    Calls Tryz.prog 8 #[.slice a len cap, .int .i64 at_, .int .i64 most] w fun e w' => (∃ v, e = .returned (.int .i64 v) ∧ 0 ≤ v ∧ v ≤ 255 ∧ (1 ≤ most → v < most)) ∧ w' = w := by
  by_cases hm1 : most ≤ 1
  · go_enter Tryz.func8, Tryz.ntmps8
    go_wp2_with fail
    go_ret
    exact ⟨⟨0, rfl, by omega, by omega, by omega⟩, rfl⟩
  · by_cases hl0 : len = 0
    · have e0 : ((len : Int) == 0) = true := by simp [hl0]
      subst hl0
      go_enter Tryz.func8, Tryz.ntmps8
      go_wp2_with fail
      go_ret
      exact ⟨⟨0, rfl, by omega, by omega, by omega⟩, rfl⟩
    · have e0 : ((len : Int) == 0) = false := by simp; omega
      have hpos : (0 : Int) < (len : Int) := by omega
      have r0 : 0 ≤ at_ % (len : Int) := Int.emod_nonneg _ (by omega)
      have r1 : at_ % (len : Int) < (len : Int) := Int.emod_lt_of_pos _ hpos
      obtain ⟨cb, co, z, rfl, hc, z0, z1⟩ := h (at_ % (len : Int)).toNat (by omega)
      have HM : Hid (0 ≤ z % most ∧ z % most ≤ 255 ∧ z % most < most) := ⟨Int.emod_nonneg _ (by omega), by
        have : z % most ≤ z := by
          rcases Int.lt_or_le z most with hz | hz
          · rw [Int.emod_eq_of_lt z0 hz]; omega
          · have := Int.emod_lt_of_pos z (show 0 < most by omega); omega
        omega, Int.emod_lt_of_pos _ (by omega)⟩
      clear h
      have mz : (most == 0) = false := by simp; omega
      go_enter Tryz.func8, Tryz.ntmps8
      go_wp2_with fail
      go_ret
      exact ⟨⟨_, rfl, HM.out.1, HM.out.2.1, fun _ => HM.out.2.2⟩, rfl⟩

/-- The same number in every later world. -/
theorem lwAt_val (a : Option Addr) (len cap : Nat) (at_ most : Int) (w : World) (h : Bytes a len w) (hl : len ≤ 4194304) (h0 : 0 ≤ at_) (h1 : at_ ≤ 1000) (hm1 : 1 < most) (hm : most ≤ 9223372036854775807) :
    ∃ v, 0 ≤ v ∧ v ≤ 255 ∧ v < most ∧ ∀ wx, Below w.heap.size w wx → Calls Tryz.prog 8 #[.slice a len cap, .int .i64 at_, .int .i64 most] wx fun e w' => e = .returned (.int .i64 v) ∧ w' = wx := by
  have hmn : ¬ most ≤ 1 := by omega
  by_cases hl0 : len = 0
  · refine ⟨0, by omega, by omega, by omega, fun wx _ => ?_⟩
    have e0 : ((len : Int) == 0) = true := by simp [hl0]
    subst hl0
    go_enter Tryz.func8, Tryz.ntmps8
    go_wp2_with fail
    go_ret
    exact ⟨rfl, rfl⟩
  · have e0 : ((len : Int) == 0) = false := by simp; omega
    have hpos : (0 : Int) < (len : Int) := by omega
    have r0 : 0 ≤ at_ % (len : Int) := Int.emod_nonneg _ (by omega)
    have r1 : at_ % (len : Int) < (len : Int) := Int.emod_lt_of_pos _ hpos
    obtain ⟨cb, co, z, rfl, hc, z0, z1⟩ := h (at_ % (len : Int)).toNat (by omega)
    have hlt : z % most < most := Int.emod_lt_of_pos _ (by omega)
    refine ⟨z % most, Int.emod_nonneg _ (by omega), ?_, hlt, fun wx hb => ?_⟩
    · rcases Int.lt_or_le z most with hz | hz
      · rw [Int.emod_eq_of_lt z0 hz]; omega
      · omega
    have hc2 := (hb.cell (World.block_lt_of_cell? _ _ hc)).trans hc
    have mz : (most == 0) = false := by simp; omega
    clear h hc hb hlt
    go_enter Tryz.func8, Tryz.ntmps8
    go_wp2_with fail
    go_ret
    exact ⟨rfl, rfl⟩
end Go.Proofs.YtkaokfmaecdkiaaGreatDoor
namespace Go.Proofs.YtkaokfmaecdkiaaGreatDoor
open Go Go.RowKit Go.Deep

/-- What stands in the law. -/
structure NvS (s3 : Nat) (n : Nt.Net) (la : Option Addr) (lk : Nat) (fa : Option Addr) (fk : Nat) (wa : Option Addr) (wk : Nat) (w W : World) : Prop where
  row : W.rowIs s3 27 4 (rowN (ntL n la lk fa fk wa wk))
  at_ : NtAt n la fa wa W
  bel : Below w.heap.size w W
  et : NEt W
theorem NvS.below {s3 : Nat} {n : Nt.Net} {la : Option Addr} {lk : Nat} {fa : Option Addr} {fk : Nat} {wa : Option Addr} {wk : Nat} {w W W' : World} (h : NvS s3 n la lk fa fk wa wk w W) (hb : Below W.heap.size W W') : NvS s3 n la lk fa fk wa wk w W' :=
  ⟨nrow_below h.row hb, h.at_.below hb, h.bel.trans (hb.mono h.bel.size), h.et.below hb⟩
/-- What stands in the law, the net solved. -/
structure NsS (s3 s5 : Nat) (n : Nt.Net) (la : Option Addr) (lk : Nat) (fa : Option Addr) (fk : Nat) (wa : Option Addr) (wk g rc : Nat) (w W : World) : Prop where
  t : NvS s3 n la lk fa fk wa wk w W
  x : W.rowIs s5 31 3 (rowN (noL (some ⟨g, 0, none⟩) (Nt.nn n) rc 0 0))
  l : IsBlk 35 g (Nt.nn n * 2) (Nt.cells2 (Nt.svH n)) W
theorem NsS.below {s3 s5 : Nat} {n : Nt.Net} {la : Option Addr} {lk : Nat} {fa : Option Addr} {fk : Nat} {wa : Option Addr} {wk g rc : Nat} {w W W' : World} (h : NsS s3 s5 n la lk fa fk wa wk g rc w W) (hb : Below W.heap.size W W') : NsS s3 s5 n la lk fa fk wa wk g rc w W' :=
  ⟨h.t.below hb, nrow_below h.x hb, h.l.below hb⟩
/-- What is left, as the law holds it. -/
structure RsR (xb N : Nat) (C : Int) (a : Option Addr) (m k : Nat) (R : Nat → Int) (W : World) : Prop where
  row : W.rowIs xb 31 3 (rowN (noL a m k 0 C))
  len : C = 0 → m = N
  ls : IsAt a (m * 2) R W
theorem RsR.below {xb N : Nat} {C : Int} {a : Option Addr} {m k : Nat} {R : Nat → Int} {W W' : World} (h : RsR xb N C a m k R W) (hb : Below W.heap.size W W') : RsR xb N C a m k R W' := ⟨nrow_below h.row hb, h.len, h.ls.below hb⟩
theorem no_code (a : Option Addr) (m c : Nat) (x y : Int) (w : World) : (Instr.field 31 (noV a m c x y) 2).run Tryz.prog w = .ok (.int .i64 y) w := by kernel_rfl
/-- The heads, one of them another. -/
def hdW (n : Nt.Net) (v : Nat) (p q : Int) (u : Nat) : Int × Int := if u = v then (p, q) else Nt.svH n u
theorem hdW_bd {n : Nt.Net} (h : Nt.Sv n) {v : Nat} {p q : Int} (hp : NIn64 p) (hq : NIn64 q) : NBd (Nt.cells2 (hdW n v p q)) := by
  intro j
  have := Nt.svH_small h.r h.h h.g (j / 2)
  unfold NIn64 at hp hq
  unfold Nt.cells2 hdW
  by_cases e : j / 2 = v
  · rw [if_pos e]; split <;> omega
  · rw [if_neg e]; split <;> omega
theorem hdW_at {n : Nt.Net} {v N : Nat} {p q : Int} {g : Nat} {W : World} (h : IsBlk 35 g (N * 2) (Nt.cells2 (Nt.svH n)) W) : IsBlk 35 g (N * 2) (Nt.cells2 (hdW n v p q)) ((W.setCell ⟨g, v * 2, none⟩ (.int .i64 p)).setCell ⟨g, v * 2 + 1, none⟩ (.int .i64 q)) := by
  refine ((h.set (v * 2) p).set (v * 2 + 1) q).congr (fun j _ => ?_)
  unfold updI Nt.cells2 hdW
  by_cases e1 : j = v * 2 + 1
  · subst e1
    rw [if_pos rfl, if_neg (by omega), if_pos (by omega)]
  · rw [if_neg e1]
    by_cases e0 : j = v * 2
    · subst e0
      rw [if_pos rfl, if_pos (by omega), if_pos (by omega)]
    · rw [if_neg e0]
      have : j / 2 ≠ v := by omega
      rw [if_neg this]
theorem isblk_own {B n : Nat} {f : Nat → Int} {v : Value} {W : World} (h : W.ownsRow B 35 2 v n (jvs (frL f n))) (h1 : 1 ≤ n) : ∃ gh c, v = .slice (some ⟨gh, 0, none⟩) n c ∧ B ≤ gh ∧ IsBlk 35 gh (n * 2) f W := by
  rcases h.2 with ⟨_, e⟩ | ⟨g, cap, cur, e1, e2, e3, e4, e5, e6, e7⟩
  · omega
  · refine ⟨g, cap, e1, e2, cur.size, fun i => (cur[i]?).getD (.bool false), by omega, ⟨cur, e3, rfl, fun i hi => ?_⟩, fun j hj => ?_⟩
    · show cur[i]? = some ((cur[i]?).getD _)
      rw [Array.getElem?_eq_getElem hi]; rfl
    · have e : (cur.toList.take (n * 2))[j]? = some (.int .i64 (f j)) := by rw [e7]; simp [jvs, frL, hj]
      rw [List.getElem?_take_of_lt hj, Array.getElem?_toList] at e
      show (cur[j]?).getD _ = _
      rw [e]; rfl
theorem fr_copy2 {n : Nat} {f : Nat → Int} {B : Nat} {v : Value} {W W1 : World} {g0 : Nat} (h1n : 1 ≤ n) (hown : W1.ownsRow B 35 2 v (0 + n) ([] ++ jvs (frL f n))) (hg : W.grownBy W1 (some g0)) (h0 : B ≤ g0) (hW : B ≤ W.heap.size) : (∃ gh c, v = .slice (some ⟨gh, 0, none⟩) n c ∧ B ≤ gh ∧ IsBlk 35 gh (n * 2) f W1) ∧ Below B W W1 := by
  constructor
  · rw [Nat.zero_add, List.nil_append] at hown
    exact isblk_own hown h1n
  · exact ⟨hg.os, hg.tape, hg.output, hg.size, fun k hk => hg.block k (by omega) (fun e => by cases e; omega)⟩
set_option maxRecDepth 100000 in
set_option maxHeartbeats 4000000 in
theorem netOne_fn (w : World) (a : Option Addr) (len cap : Nat) (h : Bytes a len w) (hl : len ≤ 9223372036854775807) (a2 : Option Addr) (len2 cap2 : Nat) (h2 : Bytes a2 len2 w) (hl2 : len2 ≤ 9223372036854775807) (hg : Et w) :
    Calls Tryz.prog 3 #[.slice a len cap, .slice a2 len2 cap2] w fun e w' => e = .returned (.bool true) ∧ Below w.heap.size w w' := by
  have H := Lib.hid h
  have H2 := Lib.hid h2
  have HG : Hid (NEt w) := hg
  clear h h2 hg
  by_cases hbig : (1048576 : Int) < (len : Int)
  · go_enter Tryz.func3, Tryz.ntmps3
    go_wp2_with fail
    go_ret
    exact ⟨rfl, Below.refl _ _⟩
  by_cases hbig2 : (1048576 : Int) < (len2 : Int)
  · go_enter Tryz.func3, Tryz.ntmps3
    go_wp2_with fail
    go_ret
    exact ⟨rfl, Below.refl _ _⟩
  obtain ⟨i1, hi1, hy0, hy1, hy2⟩ := info_parts ninfo_Frac
  go_enter Tryz.func3, Tryz.ntmps3
  go_wp2_with fail
  refine (drawNS_any a len cap _ H.out (by omega)).mono ?_
  rintro e w1 ⟨⟨n, la, lk, fa, fk, wa, wk, rfl, hat, l1, l2, l3⟩, hb⟩
  obtain ⟨W3, hW3⟩ : ∃ W, W = w1.alloc (.cells #[.int .i64 n.nodes, .slice la n.ln lk, .slice fa n.fn fk, .slice wa n.wn wk] 27) := ⟨_, rfl⟩
  obtain ⟨s3, hs3⟩ : ∃ s, s = w1.heap.size := ⟨_, rfl⟩
  have HT : Hid (NvS s3 n la lk fa fk wa wk w W3) := by
    show NvS _ _ _ _ _ _ _ _ _ _
    rw [hW3, hs3]
    have hb3 := hb.trans ((nbel_alloc w1 (.cells #[.int .i64 n.nodes, .slice la n.ln lk, .slice fa n.fn fk, .slice wa n.wn wk] 27)).mono hb.size)
    exact ⟨rowN_alloc w1 _ _, hat.below (nbel_alloc _ _), hb3, HG.out.below hb3⟩
  have HW3 := Lib.hid hW3
  have HS3 := Lib.hid hs3
  have HSM : Hid (NtSmall n) := ⟨by omega, by omega, by omega⟩
  have HFN : Hid (n.fn ≤ 1000) := l2
  have HL2 : Hid (len2 ≤ 1048576) := by show _ ≤ _; omega
  clear hb hat hW3 hs3 l1 l2 l3 H hbig hbig2 hl hl2 HG
  go_wp2_with fail
  rw [← HW3.out, ← HS3.out]
  clear HW3 HS3
  obtain ⟨⟨o0, o1, o2, o3⟩, _⟩ := rowN4 HT.out.row
  go_wp2_with fail
  clear o0 o1 o2 o3
  refine (specSolve_any n la lk fa fk wa wk _ HT.out.at_ HSM.out).mono ?_
  rintro e w4 ⟨hE, hb⟩
  obtain ⟨ya, ym, yc, yat, ycode, rfl, hsv⟩ := sv_told hE
  replace HT := Lib.hid (HT.out.below hb)
  clear hb hE
  go_wp2_with fail
  rw [no_code]
  by_cases hy : ¬ ycode = 0
  · have hyb : (ycode != 0) = true := by simpa using hy
    go_wp2_with fail
    go_ret
    exact ⟨rfl, HT.out.bel⟩
  replace hy := Decidable.not_not.1 hy
  have HSV := Lib.hid (hsv hy)
  subst hy
  clear hsv
  obtain ⟨⟨o0, o1, o2, o3⟩, _⟩ := rowN4 HT.out.row
  go_wp2_with fail
  clear o0 o1 o2 o3
  refine (implNetSolve_any n la lk fa fk wa wk _ HT.out.at_ HSM.out HT.out.et).mono ?_
  rintro e w6 ⟨hE, hb⟩
  obtain ⟨g, rc, rfl, _, hbk⟩ := sv_ok HSV.out hE
  have HX := Lib.hid hbk
  replace HT := Lib.hid (HT.out.below hb)
  clear hb hE hbk
  obtain ⟨W7, hW7⟩ : ∃ W, W = w6.alloc (.cells #[.slice (some ⟨g, 0, none⟩) (Nt.nn n) rc, .int .i64 0, .int .i64 0] 31) := ⟨_, rfl⟩
  obtain ⟨s5, hs5⟩ : ∃ s, s = w6.heap.size := ⟨_, rfl⟩
  have HS : Hid (NsS s3 s5 n la lk fa fk wa wk g rc w W7) := by
    have hb7 : Below w6.heap.size w6 W7 := by rw [hW7]; exact nbel_alloc _ _
    exact ⟨HT.out.below hb7, by rw [hW7, hs5]; exact rowN_alloc w6 _ _, HX.out.below hb7⟩
  have HW7 := Lib.hid hW7
  have HS5 := Lib.hid hs5
  clear hW7 hs5 HT HX
  go_upto_region 7 with fail
  rw [← HW7.out, ← HS5.out]
  clear HW7 HS5
  obtain ⟨hn0, hn1, hn2⟩ := HSV.out.nn_eq
  have hnq : ((Nt.nn n : Int) != n.nodes) = false := by simp [hn0]
  obtain ⟨⟨o0, o1, o2, o3⟩, _⟩ := rowN4 HS.out.t.row
  obtain ⟨⟨p0, p1, p2⟩, _⟩ := rowN3 HS.out.x
  go_upto_region 9 with fail
  clear hnq
  obtain ⟨⟨q0, _, _⟩, _⟩ := rowN3 (nrow_below HS.out.x (nbel_alloc W7 (.cells #[] 35)))
  have hs5 := HS.out.x.lt
  go_wp2_with (at_builtin; refine wpList_append_own _ rfl _ _ 29 rfl W7.heap.size 35 i1 (.agg #[.int .i64 0, .int .i64 0]) 2 16 Tryz.underlying29 hi1 hy0 hy1 hy2 rfl (by decide) _ _ _ rfl (World.ownsRow_made W7 #[] 0 (Nat.le_refl _) (Nat.zero_le _) rfl) ⟨g, 0, none⟩ (Nt.nn n) rc (jvs (frL (Nt.cells2 (Nt.svH n)) (Nt.nn n))) rfl ?q1 ?q2 frL_one ?q4 ?q5 ?q6 ?_)
  case q1 => exact frL_len _ _
  case q2 => exact frL_cells ((HS.out.l.below (nbel_alloc _ _)).at_)
  case q4 => unfold maxLen; omega
  case q5 => omega
  case q6 => simp
  intro v' W9 hown hgrow hnil
  clear o0 o1 o2 o3 p0 p1 p2 q0 hs5
  obtain ⟨⟨gh, hk, rfl, hgl, hcp⟩, hb0⟩ := fr_copy2 (B := W7.heap.size) hn1 (by simpa using hown) hgrow (Nat.le_refl _) (by simp)
  have hb : Below W7.heap.size W7 W9 := (nbel_alloc _ _).trans hb0
  have HH := Lib.hid hcp
  have HGL : Hid (W7.heap.size ≤ gh) := hgl
  have HB7 := Lib.hid hb
  clear hown hgrow hnil hcp hb0 hb hgl
  obtain ⟨⟨o0, o1, o2, o3⟩, _⟩ := rowN4 (HS.out.below HB7.out).t.row
  go_wp2_with fail
  clear o0 o1 o2 o3
  refine (lwAt_any a2 len2 cap2 0 n.nodes _ (H2.out.below (HS.out.below HB7.out).t.bel) (by have := HL2.out; omega) (by omega) (by omega) (by omega)).mono ?_
  rintro e wl ⟨⟨vz, rfl, v0, v1, v2⟩, rfl⟩
  have v3 := v2 (by omega)
  obtain ⟨v, rfl⟩ : ∃ u : Nat, vz = (u : Int) := ⟨vz.toNat, by omega⟩
  have hv : v < Nt.nn n := by omega
  have hvz : (v : Int) < (Nt.nn n : Int) := by omega
  clear v0 v1 v2 v3
  go_wp2_with fail
  refine (ndrawText_any a2 len2 cap2 _ (H2.out.below (HS.out.below HB7.out).t.bel) HL2.out).mono ?_
  rintro e wt ⟨⟨p, q, rfl, hp, hq⟩, hb⟩
  have HP := Lib.hid hp
  have HQ := Lib.hid hq
  replace HB7 := Lib.hid (HB7.out.trans (hb.mono HB7.out.size))
  replace HH := Lib.hid (HH.out.below hb)
  clear hb hp hq
  have hc0 := HH.out.cell (i := v * 2) (by omega)
  have hc1 := HH.out.cell (i := v * 2 + 1) (by omega)
  have hf0 := HH.out.frozen (v * 2)
  have hf1 := HH.out.frozen (v * 2 + 1)
  have hgw := HH.out.lt
  obtain ⟨Wa, hWa⟩ : ∃ W, W = (wt.setCell ⟨gh, v * 2, none⟩ (.int .i64 p)).setCell ⟨gh, v * 2 + 1, none⟩ (.int .i64 q) := ⟨_, rfl⟩
  have HA : Hid (IsBlk 35 gh (Nt.nn n * 2) (Nt.cells2 (hdW n v p q)) Wa) := by show IsBlk _ _ _ _ _; rw [hWa]; exact hdW_at HH.out
  have HBa : Hid (Below W7.heap.size W7 Wa) := by show Below _ _ _; rw [hWa]; exact (HB7.out.setCell (p := ⟨gh, v * 2, none⟩) HGL.out _).setCell (p := ⟨gh, v * 2 + 1, none⟩) HGL.out _
  have HWa := Lib.hid hWa
  clear hWa
  go_upto_region 12 with fail
  rw [← HWa.out]
  clear HWa hc0 hc1 hf0 hf1 hgw HH HB7
  obtain ⟨C, hC⟩ : ∃ C, C = Nt.reCode n (Nt.nn n) (Nt.cells2 (hdW n v p q)) := ⟨_, rfl⟩
  obtain ⟨R, hR⟩ : ∃ R, R = Nt.rev n (Nt.cells2 (hdW n v p q)) := ⟨_, rfl⟩
  have IMR : Hid (∀ V, NtAt n la fa wa V → IsAt (some ⟨gh, 0, none⟩) (Nt.nn n * 2) (Nt.cells2 (hdW n v p q)) V → NEt V → Calls Tryz.prog 11 #[ntV n la lk fa fk wa wk, .slice (some ⟨gh, 0, none⟩) (Nt.nn n) hk] V fun e w' => (∃ a m k, e = .returned (noV a m k 0 C) ∧ (C = 0 → m = Nt.nn n) ∧ LsOwn 35 2 V.heap.size m a k (Nt.cells2 R) w') ∧ Below V.heap.size V w') := fun V q1 q2 q3 => by
    refine (implNetRest_any n la lk fa fk wa wk _ (Nt.nn n) hk _ V q1 HSM.out q2 (hdW_bd HSV.out HP.out HQ.out) (by omega) q3).mono ?_
    rintro e w' ⟨h1, h2⟩
    rw [← hC, ← hR] at h1
    exact ⟨re_told h1, h2⟩
  have SPR : Hid (∀ V, NtAt n la fa wa V → IsAt (some ⟨gh, 0, none⟩) (Nt.nn n * 2) (Nt.cells2 (hdW n v p q)) V → Calls Tryz.prog 10 #[ntV n la lk fa fk wa wk, .slice (some ⟨gh, 0, none⟩) (Nt.nn n) hk] V fun e w' => (∃ a m k, e = .returned (noV a m k 0 C)) ∧ Below V.heap.size V w') := fun V q1 q2 => by
    refine (specRest_any n la lk fa fk wa wk _ (Nt.nn n) hk _ V q1 HSM.out q2 (by omega)).mono ?_
    rintro e w' ⟨h1, h2⟩
    rw [← hC] at h1
    obtain ⟨a, m, k, e1, _⟩ := re_told h1
    exact ⟨⟨a, m, k, e1⟩, h2⟩
  have HPT : Hid (C = 0 → (p, q) ≠ Nt.svH n v → Nt.startH n n.fn v = false → ∃ k, k < Nt.nn n ∧ Nt.startH n n.fn k = false ∧ (R k).1 ≠ 0) := fun c hne hf => by
    rw [hR]
    refine HSV.out.part (by rw [← hC]; exact c) hv hf (fun u hu => ?_) ?_
    · unfold hdW; rw [if_neg hu]
    · unfold hdW; rw [if_pos rfl]; exact hne
  clear hC hR
  replace HS := Lib.hid (HS.out.below HBa.out)
  clear HBa HGL
  obtain ⟨⟨o0, o1, o2, o3⟩, _⟩ := rowN4 HS.out.t.row
  go_wp2_with fail
  clear o0 o1 o2 o3
  refine (SPR.out _ HS.out.t.at_ HA.out.at_).mono ?_
  rintro e wb ⟨⟨a3, m3, k3, rfl⟩, hb⟩
  replace HS := Lib.hid (HS.out.below hb)
  replace HA := Lib.hid (HA.out.below hb)
  clear hb SPR
  obtain ⟨Wc, hWc⟩ : ∃ W, W = wb.alloc (.cells #[.slice a3 m3 k3, .int .i64 0, .int .i64 C] 31) := ⟨_, rfl⟩
  obtain ⟨s9, hs9⟩ : ∃ s, s = wb.heap.size := ⟨_, rfl⟩
  have HO : Hid (Wc.rowIs s9 31 3 (rowN (noL a3 m3 k3 0 C))) := by show World.rowIs _ _ _ _ _; rw [hWc, hs9]; exact rowN_alloc wb _ _
  have hbc : Below wb.heap.size wb Wc := by rw [hWc]; exact nbel_alloc _ _
  replace HS := Lib.hid (HS.out.below hbc)
  replace HA := Lib.hid (HA.out.below hbc)
  have HWc := Lib.hid hWc
  have HS9 := Lib.hid hs9
  clear hWc hs9 hbc
  go_upto_region 13 with fail
  rw [← HWc.out, ← HS9.out]
  clear HWc HS9
  obtain ⟨⟨p0, p1, p2⟩, _⟩ := rowN3 HS.out.x
  obtain ⟨⟨r0, r1, r2⟩, _⟩ := rowN3 HO.out
  have c0 := HA.out.cell (i := v * 2) (by omega)
  have c1 := HA.out.cell (i := v * 2 + 1) (by omega)
  rw [Nt.cells2_0] at c0
  rw [Nt.cells2_1] at c1
  have ew : hdW n v p q v = (p, q) := by unfold hdW; rw [if_pos rfl]
  rw [ew] at c0 c1
  have d0 := HS.out.l.cell (i := v * 2) (by omega)
  have d1 := HS.out.l.cell (i := v * 2 + 1) (by omega)
  rw [Nt.cells2_0] at d0
  rw [Nt.cells2_1] at d1
  clear ew
  obtain ⟨x1, hx1⟩ : ∃ x, x = (Nt.svH n v).1 := ⟨_, rfl⟩
  obtain ⟨x2, hx2⟩ : ∃ x, x = (Nt.svH n v).2 := ⟨_, rfl⟩
  rw [← hx1] at d0
  rw [← hx2] at d1
  have HXX : Hid (Nt.svH n v = (x1, x2)) := by show _ = _; rw [hx1, hx2]
  clear hx1 hx2
  by_cases hpx : (p = x1 ∧ q = x2) ∨ ¬ C = 0
  · have HFB : Hid (Below w.heap.size w Wc) := HS.out.t.bel
    rcases hpx with ⟨rfl, rfl⟩ | hc
    · go_quiet (fail)
      go_wp2_with fail
      go_ret
      exact ⟨rfl, ⟨HFB.out.os, HFB.out.tape, HFB.out.output, HFB.out.size, HFB.out.block⟩⟩
    · have hcb : (C != 0) = true := by simpa using hc
      by_cases e1 : p = x1
      · subst e1
        by_cases e2 : q = x2
        · subst e2
          go_quiet (fail)
          go_wp2_with fail
          go_ret
          exact ⟨rfl, ⟨HFB.out.os, HFB.out.tape, HFB.out.output, HFB.out.size, HFB.out.block⟩⟩
        · have e2b : (q == x2) = false := by simpa using e2
          go_quiet (fail)
          go_wp2_with fail
          go_ret
          exact ⟨rfl, ⟨HFB.out.os, HFB.out.tape, HFB.out.output, HFB.out.size, HFB.out.block⟩⟩
      · have e1b : (p == x1) = false := by simpa using e1
        go_quiet (fail)
        go_wp2_with fail
        go_ret
        exact ⟨rfl, ⟨HFB.out.os, HFB.out.tape, HFB.out.output, HFB.out.size, HFB.out.block⟩⟩
  have hC0 : C = 0 := Classical.byContradiction (fun q => hpx (Or.inr q))
  subst hC0
  have HNE : Hid ((p, q) ≠ Nt.svH n v) := fun e => by
    rw [HXX.out] at e
    exact hpx (Or.inl ⟨congrArg Prod.fst e, congrArg Prod.snd e⟩)
  go_cut [67] (fun vv Wq => vv = .bool false ∧ Hid (NsS s3 s5 n la lk fa fk wa wk g rc w Wq) ∧ Hid (IsBlk 35 gh (Nt.nn n * 2) (Nt.cells2 (hdW n v p q)) Wq))
  case first =>
    by_cases e1 : p = x1
    · have e2b : (q == x2) = false := by
        cases h2 : (q == x2) with
        | false => rfl
        | true => exact absurd (Or.inl ⟨e1, by simpa using h2⟩) hpx
      subst e1
      clear hpx
      go_quiet (fail)
      go_wp2_with fail
      go_meet
      case rel => exact ⟨rfl, HS.out.below ⟨rfl, rfl, rfl, Nat.le_refl _, fun _ _ => rfl⟩, HA.out.below ⟨rfl, rfl, rfl, Nat.le_refl _, fun _ _ => rfl⟩⟩
    · have e1b : (p == x1) = false := by simpa using e1
      clear hpx
      go_quiet (fail)
      go_wp2_with fail
      go_meet
      case rel => exact ⟨rfl, HS.out.below ⟨rfl, rfl, rfl, Nat.le_refl _, fun _ _ => rfl⟩, HA.out.below ⟨rfl, rfl, rfl, Nat.le_refl _, fun _ _ => rfl⟩⟩
  case rest =>
  obtain ⟨We, hWe⟩ : ∃ W, W = wc := ⟨_, rfl⟩
  subst hWe
  obtain ⟨rfl, HS2, HA2⟩ := hcut
  clear HS HA HO p0 p1 p2 r0 r1 r2 c0 c1 d0 d1 hpx HXX
  have hfn := HFN.out
  go_wp2_with fail
  go_loopw [10] (fun iv wr => ∃ (i : Nat), i ≤ n.fn ∧ iv = .int .i64 i ∧ wr = We ∧ Hid (∀ j, j < i → Nt.fx n j ≠ v)) (fun iv _ => n.fn - (intOf iv).toNat)
  case atStart => exact ⟨0, Nat.zero_le _, rfl, rfl, fun j hj => absurd hj (Nat.not_lt_zero _)⟩
  case round =>
  obtain ⟨i, hi, rfl, rfl, hJ⟩ := hrel
  obtain ⟨⟨o0, o1, o2, o3⟩, _⟩ := rowN4 HS2.out.t.row
  by_cases hlt : i < n.fn
  · have hltz : (i : Int) < (n.fn : Int) := by omega
    obtain ⟨b, e, c0, c1⟩ := HS2.out.t.at_.f.at2 hlt
    subst e
    rw [(HSV.out.fx_eq hlt).1] at c0
    by_cases hfv : Nt.fx n i = v
    · rw [hfv] at c0
      go_wp2_with fail
      go_ret
      exact ⟨rfl, HS2.out.t.bel⟩
    · have hfb : ((Nt.fx n i : Int) == (v : Int)) = false := by simp; omega
      go_wp2_with fail
      go_roundw
      case rel => exact ⟨i + 1, by omega, by go_num, trivial, fun j hj => by
        by_cases ej : j = i
        · rw [ej]; exact hfv
        · exact hJ.out j (by omega)⟩
      case measure => simp [intOf]; omega
  obtain rfl : i = n.fn := by omega
  have hfv : Nt.startH n n.fn v = false := by
    cases hs : Nt.startH n n.fn v with
    | false => rfl
    | true =>
      obtain ⟨j, hj, e⟩ := (Nt.fixed_iff _).1 hs
      exact absurd e (hJ.out j hj)
  have HEX := Lib.hid (HPT.out (by trivial) HNE.out hfv)
  clear hfv hJ HPT HNE hlt
  have hilz : ¬ ((n.fn : Nat) : Int) < (n.fn : Int) := by omega
  go_wp2_with fail
  clear o0 o1 o2 o3
  refine (IMR.out _ HS2.out.t.at_ HA2.out.at_ HS2.out.t.et).mono ?_
  rintro e wf ⟨⟨a4, m4, k4, rfl, hm4, hl4⟩, hb⟩
  have e4 := hm4 (by trivial)
  subst e4
  have HL := Lib.hid hl4.at_
  replace HS2 := Lib.hid (HS2.out.below hb)
  clear hb hm4 hl4 IMR HA2
  obtain ⟨Wg, hWg⟩ : ∃ W, W = wf.alloc (.cells #[.slice a4 (Nt.nn n) k4, .int .i64 0, .int .i64 0] 31) := ⟨_, rfl⟩
  obtain ⟨s11, hs11⟩ : ∃ s, s = wf.heap.size := ⟨_, rfl⟩
  have HO : Hid (Wg.rowIs s11 31 3 (rowN (noL a4 (Nt.nn n) k4 0 0))) := by show World.rowIs _ _ _ _ _; rw [hWg, hs11]; exact rowN_alloc wf _ _
  have hbg : Below wf.heap.size wf Wg := by rw [hWg]; exact nbel_alloc _ _
  replace HS2 := Lib.hid (HS2.out.below hbg)
  replace HL := Lib.hid (HL.out.below hbg)
  have HWg := Lib.hid hWg
  have HS11 := Lib.hid hs11
  clear hWg hs11 hbg
  go_upto_region 21 with fail
  rw [← HWg.out, ← HS11.out]
  clear HWg HS11
  obtain ⟨⟨p0, p1, p2⟩, _⟩ := rowN3 HO.out
  go_wp2_with fail
  clear p0 p1 p2
  go_loopw [12] (fun kv wr => ∃ (k : Nat), k ≤ Nt.nn n ∧ kv = .int .i64 k ∧ wr = Wg ∧ Hid (∀ j, j < k → Nt.startH n n.fn j = false → (R j).1 = 0)) (fun kv _ => Nt.nn n - (intOf kv).toNat)
  case atStart => exact ⟨0, Nat.zero_le _, rfl, rfl, fun j hj => absurd hj (Nat.not_lt_zero _)⟩
  case round =>
  obtain ⟨k, hk2, rfl, rfl, hJ⟩ := hrel
  obtain ⟨⟨o0, o1, o2, o3⟩, _⟩ := rowN4 HS2.out.t.row
  rw [← hn0] at o0
  by_cases hlt : ¬ k < Nt.nn n
  · obtain ⟨k0, h1, h2, h3⟩ := HEX.out
    exact absurd (hJ.out k0 (by omega) h2) h3
  replace hlt := Decidable.not_not.1 hlt
  have hltz : (k : Int) < (Nt.nn n : Int) := by omega
  go_wp2_with fail
  go_loopw [13, 14] (fun bv iv wq => ∃ (i : Nat), i ≤ n.fn ∧ bv = .bool (Nt.startH n i k) ∧ iv = .int .i64 i ∧ wq = wr) (fun _ iv _ => n.fn - (intOf iv).toNat)
  case atStart => exact ⟨0, Nat.zero_le _, rfl, rfl, rfl⟩
  case round =>
  obtain ⟨i, hi, rfl, rfl, rfl⟩ := hrel
  obtain ⟨B, hB⟩ : ∃ B, B = Nt.startH n i k := ⟨_, rfl⟩
  rw [← hB]
  by_cases hil : i < n.fn
  · have hilz : (i : Int) < (n.fn : Int) := by omega
    have hs : Nt.startH n (i + 1) k = (B || ((Nt.fx n i : Int) == (k : Int))) := by
      rw [hB, Nt.startH]
      unfold Nt.updB
      by_cases e : k = Nt.fx n i
      · rw [if_pos e]; simp [e]
      · rw [if_neg e]
        have : ((Nt.fx n i : Int) == (k : Int)) = false := by simp; omega
        rw [this, Bool.or_false]
    have HQ2 := Lib.hid hs
    clear hs hB
    obtain ⟨b, e, c0, c1⟩ := HS2.out.t.at_.f.at2 hil
    subst e
    rw [(HSV.out.fx_eq hil).1] at c0
    cases B with
    | true =>
      go_wp2_with fail
      go_roundw
      case rel => exact ⟨i + 1, by omega, by rw [HQ2.out]; simp, by go_num, trivial⟩
      case measure => simp [intOf]; omega
    | false =>
      go_wp2_with fail
      go_roundw
      case rel => exact ⟨i + 1, by omega, by rw [HQ2.out]; simp, by go_num, trivial⟩
      case measure => simp [intOf]; omega
  obtain rfl : i = n.fn := by omega
  have hilz : ¬ ((n.fn : Nat) : Int) < (n.fn : Int) := by omega
  obtain ⟨⟨p0, p1, p2⟩, _⟩ := rowN3 HO.out
  cases B with
  | true =>
    have HB2 := Lib.hid hB
    clear hB
    go_wp2_with fail
    go_roundw
    case rel => exact ⟨k + 1, by omega, by go_num, trivial, fun j hj hf => by
      by_cases ej : j = k
      · rw [ej, ← HB2.out] at hf; cases hf
      · exact hJ.out j (by omega) hf⟩
    case measure => simp [intOf]; omega
  | false =>
    obtain ⟨b, e, c0, c1⟩ := HL.out.at2 hlt
    subst e
    rw [Nt.cells2_0] at c0
    clear hB
    by_cases hz : (R k).1 = 0
    · rw [hz] at c0
      go_wp2_with fail
      go_roundw
      case rel => exact ⟨k + 1, by omega, by go_num, trivial, fun j hj hf => by
        by_cases ej : j = k
        · rw [ej]; exact hz
        · exact hJ.out j (by omega) hf⟩
      case measure => simp [intOf]; omega
    · have hzb : ((R k).1 != 0) = true := by simpa using hz
      go_wp2_with fail
      go_ret
      exact ⟨rfl, HS2.out.t.bel⟩
end Go.Proofs.YtkaokfmaecdkiaaGreatDoor
