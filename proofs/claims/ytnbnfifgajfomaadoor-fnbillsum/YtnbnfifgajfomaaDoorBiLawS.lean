/-
  The law FnBillSum.
-/
import Derived.Test.YtnbnfifgajfomaaDoorBiDm
import Derived.Test.YtnbnfifgajfomaaDoorBiMi
import Derived.Test.YtnbnfifgajfomaaDoorBiR
import Derived.Test.YtnbnfifgajfomaaDoorBiLawD
namespace Go.Proofs.YtnbnfifgajfomaaDoor
open Go Go.RowKit Go.Deep

namespace Bi
/-- The numbers of a good bill. -/
structure BsN (t : T) (d x D L M S N X G : Int) : Prop where
  d : D = d * t.day
  m : M = L * t.sew
  s : M.tdiv 100 = S
  n : N = D + L + S
  g : G = N + X
  d0 : 0 ≤ D ∧ D ≤ 10000000
  l0 : 0 ≤ L ∧ L ≤ 100000000000
  m0 : 0 ≤ M ∧ M ≤ 20000000000000
  s0 : 0 ≤ S ∧ S ≤ 200000000000
  n0 : 0 ≤ N ∧ N ≤ 1000000000000
  x0 : 0 ≤ X ∧ X ≤ 2000000000000
theorem bsNums {t : T} {d x : Int} (h : Ok t d x) : BsN t d x (bill t d x).days (lsum t x t.bn) (lsum t x t.bn * t.sew) (bill t d x).sew (bill t d x).net (bill t d x).tax (bill t d x).gross := by
  have hs := sew_bd h
  refine ⟨rfl, rfl, ?_, rfl, rfl, days_bd h, lsum_bd h.1.2.1 h.2.2 _ (Nat.le_refl _), hs.1, hs.2, net_bd h, (tax_bd h).2⟩
  show _ = lsum t x t.bn * t.sew / 100
  rw [Int.tdiv_eq_ediv_of_nonneg hs.1.1]
theorem bright_yes {t : T} {d x : Int} (h : Ok t d x) : dB (BRight t x ⟨bill t d x, t.bn, line t x⟩) = true := dB_tt ⟨d, h, rfl, rfl, fun _ _ => rfl⟩
theorem bright_no {t : T} {d x : Int} {B : Bl} (hB : B = { bill t d x with gross := (bill t d x).gross + 1 }) : dB (BRight t x ⟨B, t.bn, line t x⟩) = false := by
  refine dB_ff ?_
  rintro ⟨d', _, h, _⟩
  have h : bill t d' x = B := h
  rw [hB] at h
  have h1 := congrArg Bl.net h
  have h2 := congrArg Bl.tax h
  have h3 := congrArg Bl.gross h
  have h1 : netG t d' x = netG t d x := h1
  have h2 : taxG t d' x = taxG t d x := h2
  have h3 : netG t d' x + taxG t d' x = netG t d x + taxG t d x + 1 := h3
  omega
end Bi
theorem bill_code (X : Bi.Bl) (n : Nat) (a : Option Addr) (c : Nat) (w : World) : (Instr.field 30 (blV X n a c) 6).run Tryd.prog w = .ok (.int .i64 X.code) w := by kernel_rfl
/-- What stands in the law: the tariff, its blocks, the old memory. -/
structure BsS (s3 : Nat) (t : Bi.T) (la : Option Addr) (lk : Nat) (w W : World) : Prop where
  row : W.rowIs s3 25 4 (rowN (tfL t la lk))
  ls : IsAt la (t.bn * 2) t.B W
  lo : ∀ k, la = some ⟨k, 0, none⟩ → k < s3
  bel : Below w.heap.size w W
theorem BsS.below {s3 : Nat} {t : Bi.T} {la : Option Addr} {lk : Nat} {w W W' : World} (h : BsS s3 t la lk w W) (hb : Below W.heap.size W W') : BsS s3 t la lk w W' :=
  ⟨nrow_below h.row hb, h.ls.below hb, h.lo, h.bel.trans (hb.mono h.bel.size)⟩
set_option maxRecDepth 100000 in
set_option maxHeartbeats 16000000 in
theorem billSum_law (w : World) (a : Option Addr) (len cap : Nat) (h : Bytes a len w) (hl : len ≤ 9223372036854775807) (hg : Et w) :
    Calls Tryd.prog 3 #[.slice a len cap] w fun e w' => e = .returned (.bool true) ∧ Below w.heap.size w w' := by
  have H := Lib.hid h
  have HG := Lib.hid hg
  clear h hg
  by_cases hbig : (1048576 : Int) < (len : Int)
  · go_enter Tryd.func3, Tryd.ntmps3
    go_wp2_with fail
    go_ret
    exact ⟨rfl, Below.refl _ _⟩
  go_enter Tryd.func3, Tryd.ntmps3
  go_wp2_with fail
  refine (drawBill_any a len cap _ H.out (by omega)).mono ?_
  rintro e w1 ⟨⟨t, la, lk, d, x, rfl, hbn, hls⟩, hb⟩
  obtain ⟨W3, hW3⟩ : ∃ W, W = w1.alloc (.cells #[.int .i64 t.day, .slice la t.bn lk, .int .i64 t.sew, .int .i64 t.tax] 25) := ⟨_, rfl⟩
  obtain ⟨s3, hs3⟩ : ∃ s, s = w1.heap.size := ⟨_, rfl⟩
  have HT : Hid (BsS s3 t la lk w W3) := by
    show BsS _ _ _ _ _ _
    rw [hW3, hs3]
    exact ⟨rowN_alloc w1 _ _, hls.at_.below (nbel_alloc _ _), fun k e => (hls.lt e).2, hb.trans ((nbel_alloc _ _).mono hb.size)⟩
  have HW3 := Lib.hid hW3
  have HS3 := Lib.hid hs3
  have HBN := Lib.hid hbn
  clear hb hls hW3 hs3 hbn H hbig hl
  go_wp2_with fail
  rw [← HW3.out, ← HS3.out]
  clear HW3 HS3
  refine (specBill_any t la lk d x _ HT.out.ls (by have := HBN.out; omega)).mono ?_
  rintro e w4 ⟨hE, hb⟩
  replace HT := Lib.hid (HT.out.below hb)
  clear hb
  rcases hE with ⟨_, rfl⟩ | ⟨hok, a5, c5, rfl, _⟩
  · have hfld : ∀ w, (Instr.field 30 (blV Bi.bad 0 none 0) 6).run Tryd.prog w = .ok (.int .i64 1) w := bill_code Bi.bad 0 none 0
    go_wp2_with fail
    go_ret
    exact ⟨rfl, HT.out.bel⟩
  have HOK := Lib.hid hok
  obtain ⟨b, hbl⟩ : ∃ b, b = Bi.bill t d x := ⟨_, rfl⟩
  obtain ⟨D, S, N, X, G, C⟩ := b
  obtain rfl : C = 0 := congrArg Bi.Bl.code hbl
  rw [← hbl]
  have hfld : ∀ w, (Instr.field 30 (blV ⟨D, S, N, X, G, 0⟩ t.bn a5 c5) 6).run Tryd.prog w = .ok (.int .i64 0) w := bill_code _ t.bn a5 c5
  have HBL := Lib.hid hbl
  clear hok hbl
  obtain ⟨⟨o0, o1, o2, o3⟩, _⟩ := rowN4 HT.out.row
  go_wp2_with fail
  clear hfld o0 o1 o2 o3
  refine (implBill_any t la lk d x _ HT.out.ls (by have := HBN.out; omega) (HG.out.below HT.out.bel)).mono ?_
  rintro e w6 ⟨hE, hb⟩
  replace HT := Lib.hid (HT.out.below hb)
  clear hb
  rcases hE with ⟨hno, rfl⟩ | ⟨_, a6, c6, rfl, hq⟩
  · exact absurd HOK.out hno
  rw [← HBL.out]
  obtain ⟨W7, hW7⟩ : ∃ W, W = w6.alloc (.cells #[.int .i64 D, .slice a6 t.bn c6, .int .i64 S, .int .i64 N, .int .i64 X, .int .i64 G, .int .i64 0] 30) := ⟨_, rfl⟩
  obtain ⟨s6, hs6⟩ : ∃ s, s = w6.heap.size := ⟨_, rfl⟩
  have HR : Hid (W7.rowIs s6 30 7 (rowN [.int .i64 D, .slice a6 t.bn c6, .int .i64 S, .int .i64 N, .int .i64 X, .int .i64 G, .int .i64 0])) := by show World.rowIs _ _ _ _ _; rw [hW7, hs6]; exact rowN_alloc w6 _ _
  have hlo : w.heap.size ≤ s6 := by rw [hs6]; exact HT.out.bel.size
  have HLO := Lib.hid hlo
  have HQ : Hid (QsOwn w4.heap.size t.bn a6 c6 (Bi.line t x) W7) := by show QsOwn _ _ _ _ _ _; rw [hW7]; exact hq.below (nbel_alloc _ _)
  have HS : Hid (s3 < s6) := by show _ < _; have := HT.out.row.lt; omega
  replace HT : Hid (BsS s3 t la lk w W7) := by show BsS _ _ _ _ _ _; rw [hW7]; exact HT.out.below (nbel_alloc _ _)
  have HW7 := Lib.hid hW7
  have HS6 := Lib.hid hs6
  clear hW7 hs6 hq hlo
  obtain ⟨L, hL⟩ : ∃ L, L = Bi.lsum t x t.bn := ⟨_, rfl⟩
  obtain ⟨M, hM⟩ : ∃ M, M = L * t.sew := ⟨_, rfl⟩
  have HU : Hid (Bi.BsN t d x D L M S N X G) := by
    have h1 := Bi.bsNums HOK.out
    rw [← HBL.out, ← hL, ← hM] at h1
    exact h1
  have HL := Lib.hid hL
  clear hL hM
  obtain ⟨⟨o0, o1, o2, o3, o4, o5, o6⟩, _⟩ := rowN7 HR.out
  go_wp2_with fail
  rw [← HW7.out, ← HS6.out]
  clear HW7 HS6 o0 o1 o2 o3 o4 o5 o6
  refine (bisum_any a6 t.bn c6 (Bi.line t x) _ HQ.out.in_ (by have := HBN.out; omega) (fun j hj => ?_)).mono ?_
  · have h1 := HOK.out
    have h2 := Bi.line_bd (h1.1.2.1.2 j hj) (Bi.ahead_bd j (fun k hk => h1.1.2.1.2 k (by omega)) hj).1 h1.2.2
    omega
  rintro e w8 ⟨rfl, hw8⟩
  subst hw8
  have hLL : Bi.sum (Bi.line t x) t.bn = L := HL.out.symm
  rw [hLL]
  clear hLL HL
  go_upto_region 8 with fail
  obtain ⟨⟨o0, o1, o2, o3, o4, o5, o6⟩, _⟩ := rowN7 HR.out
  obtain ⟨⟨p0, p1, p2, p3⟩, _⟩ := rowN4 HT.out.row
  obtain ⟨j1, j2, j3, j4, j5, ⟨j6, j7⟩, ⟨j8, j9⟩, ⟨k0, k1⟩, ⟨k2, k3⟩, ⟨k4, k5⟩, k6, k7⟩ := HU.out
  have f1 : IntKind.i64.wrap (d * t.day) = D := by rw [← j1]; exact dwrap (by omega) (by omega)
  have f2 : IntKind.i64.wrap (L * t.sew) = M := by rw [← j2]; exact dwrap (by omega) (by omega)
  have f3 : IntKind.i64.wrap S = S := dwrap (by omega) (by omega)
  have f4 : IntKind.i64.wrap (D + L) = D + L := dwrap (by omega) (by omega)
  have f5 : IntKind.i64.wrap (D + L + S) = N := by rw [← j4]; exact dwrap (by omega) (by omega)
  have f6 : IntKind.i64.wrap (N + X) = G := by rw [← j5]; exact dwrap (by omega) (by omega)
  clear j1 j2 j4 j5 j6 j7 j8 j9 k0 k1 k2 k3 k4 k5 k6 k7
  have n1 : (D != D) = false := by simp
  have n2 : (S != S) = false := by simp
  have n3 : (N != N) = false := by simp
  have n4 : (G != G) = false := by simp
  go_upto_region 10 with fail
  clear o0 o1 o2 o3 o4 o5 o6 p0 p1 p2 p3 f1 f2 f3 f4 f5 f6 j3 n1 n2 n3 n4
  obtain ⟨⟨o0, o1, o2, o3, o4, o5, o6⟩, _⟩ := rowN7 HR.out
  obtain ⟨⟨p0, p1, p2, p3⟩, _⟩ := rowN4 HT.out.row
  go_wp2_with fail
  refine (implBRight_any t la lk x ⟨⟨D, S, N, X, G, 0⟩, t.bn, Bi.line t x⟩ a6 c6 _ HT.out.ls (by have := HBN.out; omega) HQ.out.in_ (by have := HU.out.d0; show _ ≤ D ∧ D ≤ _; omega) (HG.out.below HT.out.bel)).mono ?_
  rintro e w9 ⟨rfl, hb⟩
  have hyes : Bi.dB (Bi.BRight t x ⟨⟨D, S, N, X, G, 0⟩, t.bn, Bi.line t x⟩) = true := by rw [HBL.out]; exact Bi.bright_yes HOK.out
  rw [hyes]
  clear hyes
  replace HT := Lib.hid (HT.out.below hb)
  replace HR := Lib.hid (nrow_below HR.out hb)
  replace HQ := Lib.hid (HQ.out.below hb)
  clear hb o0 o1 o2 o3 o4 o5 o6 p0 p1 p2 p3
  obtain ⟨⟨o0, o1, o2, o3, o4, o5, o6⟩, z0, z1, z2, z3, z4, z5, z6⟩ := rowN7 HR.out
  have l6 := HR.out.lt
  have HGG : Hid (0 ≤ G ∧ G ≤ 3000000000000) := by have := HU.out; have := this.g; have := HU.out.n0; have := HU.out.x0; show _ ∧ _; omega
  obtain ⟨g0, g1⟩ := HGG.out
  obtain ⟨Y, hY⟩ : ∃ Y, Y = w9.setCell ⟨s6, 5, none⟩ (.int .i64 (G + 1)) := ⟨_, rfl⟩
  have YO : Hid (∀ g, g ≠ s6 → Y.heap[g]? = w9.heap[g]?) := by intro g hg; rw [hY]; exact Below.heap_setCell _ _ _ _ hg
  have YR : Hid (Y.rowIs s6 30 7 (rowN [.int .i64 D, .slice a6 t.bn c6, .int .i64 S, .int .i64 N, .int .i64 X, .int .i64 (G + 1), .int .i64 0])) := by show World.rowIs _ _ _ _ _; rw [hY]; exact rowN_put HR.out 5 _ (by simp)
  have YB : Hid (Below w.heap.size w Y) := by show Below _ _ _; rw [hY]; exact HT.out.bel.setCell (by exact HLO.out) _
  have YS : Hid (w9.heap.size ≤ Y.heap.size) := by show _ ≤ _; rw [hY]; simp
  have YQ : Hid (QsOwn w4.heap.size t.bn a6 c6 (Bi.line t x) Y) := HQ.out.same (fun k e _ => YO.out k (fun e2 => HQ.out.ne HR.out (by decide) (by rw [e, e2])))
  have YLS : Hid (IsAt la (t.bn * 2) t.B Y) := HT.out.ls.same (fun k e _ => YO.out k (by have := HT.out.lo k e; have := HS.out; omega))
  have HY := Lib.hid hY
  clear hY
  go_upto_region 13 with fail
  rw [← HY.out]
  clear HY o0 o1 o2 o3 o4 o5 o6 z0 z1 z2 z3 z4 z5 z6 l6
  replace HT : Hid (BsS s3 t la lk w Y) := ⟨HT.out.row.of_block (YO.out _ (by have := HS.out; omega)), YLS.out, HT.out.lo, YB.out⟩
  replace HQ := YQ
  clear YO YB YLS YQ YS
  obtain ⟨⟨o0, o1, o2, o3, o4, o5, o6⟩, _⟩ := rowN7 YR.out
  obtain ⟨⟨p0, p1, p2, p3⟩, _⟩ := rowN4 HT.out.row
  go_wp2_with fail
  refine (implBRight_any t la lk x ⟨⟨D, S, N, X, G + 1, 0⟩, t.bn, Bi.line t x⟩ a6 c6 _ HT.out.ls (by have := HBN.out; omega) HQ.out.in_ (by have := HU.out.d0; show _ ≤ D ∧ D ≤ _; omega) (HG.out.below HT.out.bel)).mono ?_
  rintro e w10 ⟨rfl, hb⟩
  have hno : Bi.dB (Bi.BRight t x ⟨⟨D, S, N, X, G + 1, 0⟩, t.bn, Bi.line t x⟩) = false := Bi.bright_no (d := d) (by rw [← HBL.out])
  rw [hno]
  clear hno
  replace HT := Lib.hid (HT.out.below hb)
  clear hb o0 o1 o2 o3 o4 o5 o6 p0 p1 p2 p3
  go_wp2_with fail
  go_ret
  exact ⟨rfl, HT.out.bel⟩
end Go.Proofs.YtnbnfifgajfomaaDoor
