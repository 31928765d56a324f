/-
  Joined: LnS3, RegL, LnRs, LnWi, LnWj, LnRi, LnRj, LnDr, LnInv, LnOn.
-/
import Derived.Test.YtdlojhncbgfjbaaGreatDoorLnBgC
import Derived.Test.YtdlojhncbgfjbaaGreatDoorReg
import Derived.Test.YtdlojhncbgfjbaaGreatDoorLnS2
import Derived.Test.YtdlojhncbgfjbaaGreatDoorFrI7
import Derived.Test.YtdlojhncbgfjbaaGreatDoorStShelf
import Derived.Test.YtdlojhncbgfjbaaGreatDoorTextB
import Derived.Lib.ItoaLen
import Derived.Test.YtdlojhncbgfjbaaGreatDoorSource
import Derived.Test.YtdlojhncbgfjbaaGreatDoorLnMem
namespace Go.Proofs.YtdlojhncbgfjbaaGreatDoor
open Go.RowKit Go.Deep

/-- What stands in the model's StationHeard while its list grows. -/
structure HdI (s : Ln.S) (a : Option Addr) (k X : Nat) (a5 : Option Addr) (k5 : Nat) (L : List Ln.Nt) (w W : World) : Prop where
  x : W.rowIs w.heap.size 28 7 (rowN (stL s a k))
  y : W.rowIs (w.heap.size + 1) 28 7 (rowN stZ)
  z : W.rowIs X 28 7 (rowN [.int .i64 s.unit, .int .i64 s.band, .bool s.seen, .int .i64 s.last, .int .i64 s.next, .slice a5 L.length k5, .int .i64 s.drops])
  own : W.ownsRow (w.heap.size + 2) 37 2 (.slice a5 L.length k5) L.length (nvs L)
  inn : IsIn a (s.wait.length * 2) (Ln.fl s.wait) W
  bel : Below w.heap.size w W
theorem HdI.below {s : Ln.S} {a : Option Addr} {k X : Nat} {a5 : Option Addr} {k5 : Nat} {L : List Ln.Nt} {w W W' : World} (h : HdI s a k X a5 k5 L w W) (hb : Below W.heap.size W W') : HdI s a k X a5 k5 L w W' :=
  ⟨nrow_below h.x hb, nrow_below h.y hb, nrow_below h.z hb, ownsRow_bel h.own hb, h.inn.below hb, h.bel.trans (hb.mono h.bel.size)⟩
/-- The list grew, and stands in the answer's block again. -/
theorem HdI.push {s : Ln.S} {a : Option Addr} {k X : Nat} {a5 a6 : Option Addr} {k5 k6 : Nat} {L L' : List Ln.Nt} {w W W' : World} (h : HdI s a k X a5 k5 L w W) (hin : IsIn a (s.wait.length * 2) (Ln.fl s.wait) w) (hX : w.heap.size + 2 ≤ X) (hg : W.grownBy W' (Value.slice a5 L.length k5).ownBlock) (hown : W'.ownsRow (w.heap.size + 2) 37 2 (.slice a6 L'.length k6) L'.length (nvs L')) :
    W'.rowIs X 28 7 (rowN [.int .i64 s.unit, .int .i64 s.band, .bool s.seen, .int .i64 s.last, .int .i64 s.next, .slice a5 L.length k5, .int .i64 s.drops]) ∧ W'.rowIs w.heap.size 28 7 (rowN (stL s a k)) ∧ Below w.heap.size w W' ∧ HdI s a k X a6 k6 L' w (W'.setCell ⟨X, 5, none⟩ (.slice a6 L'.length k6)) := by
  have hs := h.bel.size
  have ob : ∀ q, (Value.slice a5 L.length k5).ownBlock = some q → w.heap.size + 2 ≤ q := fun q hq => (h.own.lt q hq).1
  have ox := own_ne h.own h.z (by decide)
  have hz : W'.rowIs X 28 7 (rowN [.int .i64 s.unit, .int .i64 s.band, .bool s.seen, .int .i64 s.last, .int .i64 s.next, .slice a5 L.length k5, .int .i64 s.drops]) := h.z.of_block (hg.block _ h.z.lt (fun e => ox e.symm))
  have hx := h.x.of_block (hg.block _ h.x.lt (fun e => by have := ob _ e.symm; omega))
  have hy := h.y.of_block (hg.block _ h.y.lt (fun e => by have := ob _ e.symm; omega))
  have hb : Below w.heap.size w W' := h.bel.grown hg (by omega) (fun q hq => by have := ob q hq; omega)
  have hb2 : Below w.heap.size w (W'.setCell ⟨X, 5, none⟩ (.slice a6 L'.length k6)) := hb.setCell (p := ⟨X, 5, none⟩) (by show w.heap.size ≤ X; omega) _
  have ne6 := own_ne hown hz (by decide)
  refine ⟨hz, hx, hb, ⟨nrow_set hx (p := ⟨X, 5, none⟩) (by show w.heap.size ≠ X; omega) _, nrow_set hy (p := ⟨X, 5, none⟩) (by show w.heap.size + 1 ≠ X; omega) _, rowN_put hz 5 _ (by simp), ⟨hown.1, ?_⟩, hin.below hb2, hb2⟩⟩
  rcases hown.2 with h2 | ⟨g, cap, cur, e1, e2, e3, e4⟩
  · exact Or.inl h2
  · exact Or.inr ⟨g, cap, cur, e1, e2, by rw [bihs _ _ _ (fun e => ne6 (by rw [e1, e]; rfl))]; exact e3, e4⟩
set_option maxRecDepth 100000 in
set_option maxHeartbeats 16000000 in
theorem specHeard_any (s : Ln.S) (a : Option Addr) (k : Nat) (q : Int) (w : World) (h : IsIn a (s.wait.length * 2) (Ln.fl s.wait) w) (hn : s.wait.length ≤ 1048576) :
    Calls Tryz.prog 15 #[stV s a k, .int .i64 q] w fun e w' => StEnd (s.heard q) w.heap.size e w' ∧ Below w.heap.size w w' := by
  obtain ⟨i0, hi, hz0, hz1, hz2⟩ := info_parts linfo_note
  obtain ⟨W, hW⟩ : ∃ W, W = (w.alloc (stO s a k)).alloc stZO := ⟨_, rfl⟩
  have hsz : W.heap.size = w.heap.size + 2 := by rw [hW]; simp
  have HB : Hid (Below w.heap.size w W) := by show Below _ _ _; rw [hW]; exact ((Below.refl _ _).alloc (Nat.le_refl _) _).alloc (by simp) _
  have HX : Hid (W.rowIs w.heap.size 28 7 (rowN (stL s a k))) := by show W.rowIs _ _ _ _; rw [hW]; exact nrow_below (rowN_alloc w (stL s a k) _) (nbel_alloc _ _)
  have HY : Hid (W.rowIs (w.heap.size + 1) 28 7 (rowN stZ)) := by show W.rowIs _ _ _ _; rw [hW]; exact rowN_alloc' (by simp) stZ _
  have H := Lib.hid (h.below HB.out)
  have HN := Lib.hid hn
  have HW := Lib.hid hW
  have HSZ := Lib.hid hsz
  have h0 := h
  clear hW h hsz
  go_enter Tryz.func15, Tryz.ntmps15
  go_wp2_with fail
  rw [← HW.out]
  clear HW
  refine (specCopy_any s a k _ H.out HN.out).mono ?_
  rintro e w1 ⟨⟨a1, k1, rfl, hown⟩, hb⟩
  rw [HSZ.out] at hown
  obtain ⟨X, hX⟩ : ∃ X, X = w1.heap.size := ⟨_, rfl⟩
  obtain ⟨W2, hW2⟩ : ∃ W2, W2 = w1.alloc (stO s a1 k1) := ⟨_, rfl⟩
  have hXs : w.heap.size + 2 ≤ X := by rw [hX]; have := hb.size; rw [HSZ.out] at this; exact this
  have hb2 : Below w1.heap.size w1 W2 := by rw [hW2]; exact nbel_alloc _ _
  have hb3 := hb.trans (hb2.mono hb.size)
  have HX2 := Lib.hid (nrow_below HX.out hb3)
  have HY2 := Lib.hid (nrow_below HY.out hb3)
  have HB2 : Hid (Below w.heap.size w W2) := HB.out.trans (hb3.mono HB.out.size)
  have HA2 := Lib.hid (H.out.below hb3)
  have HO2 := Lib.hid (ownsRow_bel hown hb2)
  have HZ2 : Hid (W2.rowIs X 28 7 (rowN (stL s a1 k1))) := by show World.rowIs _ _ _ _ _; rw [hW2, hX]; exact rowN_alloc w1 (stL s a1 k1) _
  have HW2 := Lib.hid hW2
  have HXE := Lib.hid hX
  clear hb hb2 hb3 hown hW2 hX H HB HX HY HSZ
  have HA0 := Lib.hid h0
  obtain ⟨⟨x0, x1, x2, x3, x4, x5, x6⟩, _⟩ := rowN7 HX2.out
  have hl0 := HX2.out.lt
  rw [HW2.out] at x0 x1 x2 x3 x4 x5 x6
  go_wp2_with fail
  rw [← HW2.out, ← HXE.out]
  clear HW2 HXE x0 x1 x2 x3 x4 x5 x6 hl0
  refine (specSRight_any s a k _ HA2.out (by have := HN.out; omega)).mono ?_
  rintro e W3 ⟨rfl, hbg⟩
  have hb := hbg.bel
  have HX3 := Lib.hid (nrow_below HX2.out hb)
  have HY3 := Lib.hid (nrow_below HY2.out hb)
  have HZ3 := Lib.hid (nrow_below HZ2.out hb)
  have HB3 : Hid (Below w.heap.size w W3) := HB2.out.trans (hb.mono HB2.out.size)
  have HO3 := Lib.hid (ownsRow_bel HO2.out hb)
  clear hb hbg HX2 HY2 HZ2 HB2 HA2 HO2
  obtain ⟨⟨x0, x1, x2, x3, x4, x5, x6⟩, f0, f1, f2, f3, f4, f5, f6⟩ := rowN7 HX3.out
  obtain ⟨⟨y0, y1, y2, y3, y4, y5, y6⟩, g0, g1, g2, g3, g4, g5, g6⟩ := rowN7 HY3.out
  obtain ⟨⟨z0, z1, z2, z3, z4, z5, z6⟩, p0, p1, p2, p3, p4, p5, p6⟩ := rowN7 HZ3.out
  have hl0 := HX3.out.lt
  have hl1 := HY3.out.lt
  have hl2 := HZ3.out.lt
  have hX0 : ¬ X = w.heap.size := by omega
  have hX1 : ¬ X = w.heap.size + 1 := by omega
  have hX0' : ¬ w.heap.size = X := by omega
  have hX1' : ¬ w.heap.size + 1 = X := by omega
  by_cases ct : s.Right
  case neg =>
    rw [lB_ff ct]
    have HE : Hid (s.heard q = s) := Ln.S.heard_no ct
    clear ct
    obtain ⟨a1', c1', e1, hq, _⟩ := own_ns HO3.out
    cases e1
    have HQ3 := Lib.hid hq
    clear hq
    have zr := Lib.hid (lput7 HY3.out rfl (.int .i64 s.unit) (.int .i64 s.band) (.bool s.seen) (.int .i64 s.last) (.int .i64 s.next) (.slice a1 s.wait.length k1) (.int .i64 s.drops))
    have zb := Lib.hid (lbel7 HB3.out (g := w.heap.size + 1) (by omega) (.int .i64 s.unit) (.int .i64 s.band) (.bool s.seen) (.int .i64 s.last) (.int .i64 s.next) (.slice a1 s.wait.length k1) (.int .i64 s.drops))
    have zq : Hid (NqOwn 37 w.heap.size s.wait.length a1 (Ln.fl s.wait) ((((((((W3.setCell ⟨w.heap.size + 1, 0, none⟩ (.int .i64 s.unit)).setCell ⟨w.heap.size + 1, 1, none⟩ (.int .i64 s.band)).setCell ⟨w.heap.size + 1, 2, none⟩ (.bool s.seen)).setCell ⟨w.heap.size + 1, 3, none⟩ (.int .i64 s.last)).setCell ⟨w.heap.size + 1, 4, none⟩ (.int .i64 s.next)).setCell ⟨w.heap.size + 1, 5, none⟩ (.slice a1 s.wait.length k1)).setCell ⟨w.heap.size + 1, 6, none⟩ (.int .i64 s.drops)))) := (HQ3.out.same (fun k hk _ => lblk7 (by omega) _ _ _ _ _ _ _)).low (by omega)
    go_wp2_with fail
    refine bodyPost_ret (v := stV s a1 k1) ?_ rfl ⟨by rw [HE.out]; exact ⟨a1, k1, rfl, zq.out⟩, zb.out⟩
    obtain ⟨⟨u0, u1, u2, u3, u4, u5, u6⟩, _⟩ := rowN7 zr.out
    simp only [results, Tryz.results15]
    simp [go_sem, u0, u1, u2, u3, u4, u5, u6]
  rw [lB_tt ct]
  have HE : Hid (s.heard q = ⟨s.unit, s.band, s.seen, s.last, s.next, Ln.left q s.wait, s.drops⟩) := Ln.S.heard_yes ct
  have hw40 : s.wait.length ≤ 40 := ct.2.1
  clear ct
  have hs3 : w.heap.size + 2 ≤ W3.heap.size := by omega
  obtain ⟨V3, hV3⟩ : ∃ V3, V3 = W3.setCell ⟨X, 5, none⟩ (.slice (some ⟨W3.heap.size, 0, none⟩) 0 0) := ⟨_, rfl⟩
  have s3 : V3.heap.size = W3.heap.size := by rw [hV3]; simp
  obtain ⟨W4, hW4⟩ : ∃ W4, W4 = V3.alloc (.cells #[] 37) := ⟨_, rfl⟩
  have hb4 : Below V3.heap.size V3 W4 := by rw [hW4]; exact nbel_alloc _ _
  have HST : Hid (HdI s a k X (some ⟨W3.heap.size, 0, none⟩) 0 [] w W4) := by
    have hbz : Below w.heap.size w V3 := by rw [hV3]; exact HB3.out.setCell (p := ⟨X, 5, none⟩) (by show w.heap.size ≤ X; omega) _
    have hbz2 : Below w.heap.size w W4 := hbz.trans (hb4.mono hbz.size)
    have o1 := World.ownsRow_made (e := 37) (size := 2) V3 #[] 0 (Nat.le_refl _) (Nat.zero_le _) rfl
    rw [← hW4, s3] at o1
    refine ⟨nrow_below (by rw [hV3]; exact nrow_set HX3.out (p := ⟨X, 5, none⟩) (by show w.heap.size ≠ X; omega) _) hb4, nrow_below (by rw [hV3]; exact nrow_set HY3.out (p := ⟨X, 5, none⟩) (by show w.heap.size + 1 ≠ X; omega) _) hb4, nrow_below (by rw [hV3]; exact rowN_put HZ3.out 5 _ (by simp)) hb4, ⟨o1.1, ?_⟩, HA0.out.below hbz2, hbz2⟩
    rcases o1.2 with h2 | ⟨g, cap, cur, e1, e2, e3⟩
    · exact Or.inl h2
    · exact Or.inr ⟨g, cap, cur, e1, by omega, e3⟩
  have HW4 := Lib.hid hW4
  obtain ⟨b0, hb0⟩ : ∃ b, b = W3.heap.size := ⟨_, rfl⟩
  rw [HW4.out, hV3] at HST
  rw [← hb0] at HST
  have HB0 := Lib.hid hb0
  clear hW4 hb4 hb0 HW4 hV3 s3 HX3 HY3 HZ3 HB3 HO3
  go_wp2_with fail
  rw [← HB0.out]
  clear HB0 x0 x1 x2 x3 x4 x5 x6 f0 f1 f2 f3 f4 f5 f6 y0 y1 y2 y3 y4 y5 y6 g0 g1 g2 g3 g4 g5 g6 z0 z1 z2 z3 z4 z5 z6 p0 p1 p2 p3 p4 p5 p6 hl0 hl1 hl2 hs3
  obtain ⟨N, hN⟩ : ∃ N, N = s.wait.length := ⟨_, rfl⟩
  have HNN := Lib.hid hN
  rw [hN.symm] at hw40
  clear hN
  go_loopw [6] (fun iv wr => ∃ (i : Nat) (a5 : Option Addr) (k5 : Nat), i ≤ N ∧ iv = .int .i64 i ∧ Hid (HdI s a k X a5 k5 (Ln.left q (s.wait.take i)) w wr)) (fun iv _ => N - (intOf iv).toNat)
  case atStart => exact ⟨0, _, _, Nat.zero_le _, rfl, HST⟩
  case round =>
    obtain ⟨i, a5, k5, hiN, rfl, hS⟩ := hrel
    clear HST
    obtain ⟨L, hL⟩ : ∃ L, L = Ln.left q (s.wait.take i) := ⟨_, rfl⟩
    rw [← hL] at hS
    have HL := Lib.hid hL
    have HLL : Hid (L.length ≤ 40) := by show _ ≤ _; rw [hL]; have := Ln.left_len q (s.wait.take i); rw [List.length_take] at this; omega
    clear hL
    obtain ⟨M, hM⟩ : ∃ M, M = L.length := ⟨_, rfl⟩
    have HM := Lib.hid hM
    obtain ⟨⟨x0, x1, x2, x3, x4, x5, x6⟩, f0, f1, f2, f3, f4, f5, f6⟩ := rowN7 hS.out.x
    obtain ⟨⟨y0, y1, y2, y3, y4, y5, y6⟩, g0, g1, g2, g3, g4, g5, g6⟩ := rowN7 hS.out.y
    obtain ⟨⟨z0, z1, z2, z3, z4, z5, z6⟩, p0, p1, p2, p3, p4, p5, p6⟩ := rowN7 hS.out.z
    have hl0 := hS.out.x.lt
    have hl1 := hS.out.y.lt
    have hl2 := hS.out.z.lt
    rw [← hM] at z5
    rw [← HNN.out] at x5
    clear hM
    by_cases hlt : i < N
    · have hltz : (i : Int) < (N : Int) := by omega
      have HIL : Hid (i < s.wait.length) := by show _ < _; rw [← HNN.out]; exact hlt
      obtain ⟨b, o, rfl, c0, c1⟩ := hS.out.inn.at2 HIL.out
      obtain ⟨x, hx⟩ : ∃ x, x = Ln.fl s.wait (i * 2) := ⟨_, rfl⟩
      obtain ⟨y, hy⟩ : ∃ y, y = Ln.fl s.wait (i * 2 + 1) := ⟨_, rfl⟩
      rw [← hx] at c0
      rw [← hy] at c1
      have HX := Lib.hid hx
      have HY := Lib.hid hy
      have BLT : Hid (b < w.heap.size) := by
        obtain ⟨b', o', e', hc, _⟩ := HA0.out.at2 HIL.out
        cases e'
        exact World.block_lt_of_cell? _ _ hc
      clear hx hy
      by_cases cx : x ≤ q
      · have HE2 : Hid (Ln.left q (s.wait.take (i + 1)) = L) := by show _ = _; rw [Ln.left_take HIL.out, if_neg (by rw [← HX.out]; omega), List.append_nil, HL.out]
        have hcx : ¬ q < x := by omega
        clear cx
        go_wp2_with fail
        go_roundw
        case rel => exact ⟨i + 1, a5, k5, by omega, by go_num, by rw [HE2.out]; exact hS⟩
        case measure => simp [intOf]; omega
      have hcx : q < x := by omega
      have HE2 : Hid (Ln.left q (s.wait.take (i + 1)) = L ++ [(x, y)]) := by show _ = _; rw [Ln.left_take HIL.out, if_pos (by rw [← HX.out]; omega), HL.out, ← HX.out, ← HY.out]
      clear cx
      clear x0 x1 x2 x3 x4 x6 f0 f1 f2 f3 f4 f5 f6 y0 y1 y2 y3 y4 y5 y6 g0 g1 g2 g3 g4 g5 g6 z0 z1 z2 z3 z4 z6 p0 p1 p2 p3 p4 p5 p6 z5
      go_wp2_with fail
      refine wp_region_held_drew (S := fun V => V.rowIs w.heap.size 28 7 (rowN (stL s (some ⟨b, o, none⟩) k)) ∧ V.cell? ⟨b, o + i * 2, none⟩ = some (.int .i64 x) ∧ V.cell? ⟨b, o + i * 2 + 1, none⟩ = some (.int .i64 y) ∧ b ≠ X ∧ Below w.heap.size w V) (by kernel_rfl) ⟨hS.out.x.of_block rfl, c0, c1, ?_, hS.out.bel.drew⟩ (fun hHeld => ?_)
      · have := BLT.out
        omega
      obtain ⟨Z, hZ⟩ : ∃ Z, Z = wr.drew := ⟨_, rfl⟩
      have SZ : Hid (HdI s (some ⟨b, o, none⟩) k X a5 k5 L w Z) := by show HdI _ _ _ _ _ _ _ _ _; rw [hZ]; exact hS.out.below (Below.refl _ _).drew
      rw [← hZ] at hHeld ⊢
      clear hZ hS x5 c0 c1 hl0 hl1 hl2
      refine take_do (i := 0) (v := (.pointer (some ⟨X, 5, none⟩))) rfl (by kernel_rfl) (by kernel_rfl) (by kernel_rfl) (fun _ _ _ h => h) (by rfl) ?_ (by assumption) ?_
      · intro w hSw
        go_simp
      simp only [Act.put, List.setIfInBounds_toArray, List.set_cons_zero, List.set_cons_succ]
      refine take_do (i := 2) (v := (.pointer (some ⟨w.heap.size, 5, none⟩))) rfl (by kernel_rfl) (by kernel_rfl) (by kernel_rfl) (fun _ _ _ h => h) (by rfl) ?_ (by assumption) ?_
      · intro w hSw
        go_simp
      simp only [Act.put, List.setIfInBounds_toArray, List.set_cons_zero, List.set_cons_succ]
      refine take_do (i := 3) (v := (.slice (some ⟨b, o, none⟩) N k)) rfl (by kernel_rfl) (by kernel_rfl) (by kernel_rfl) (fun _ _ _ h => h) (by rfl) ?_ (by assumption) ?_
      · intro w hSw
        obtain ⟨⟨r0, r1, r2, r3, r4, r5, r6⟩, _⟩ := rowN7 hSw.1
        rw [← HNN.out] at r5
        obtain ⟨_, q0, q1, _⟩ := hSw
        go_simp
      simp only [Act.put, List.setIfInBounds_toArray, List.set_cons_zero, List.set_cons_succ]
      refine take_do (i := 4) (v := (.int .i64 i)) rfl (by kernel_rfl) (by kernel_rfl) (by kernel_rfl) (fun _ _ _ h => h) (by rfl) ?_ (by assumption) ?_
      · intro w hSw
        go_simp
      simp only [Act.put, List.setIfInBounds_toArray, List.set_cons_zero, List.set_cons_succ]
      refine take_do (i := 5) (v := (.pointer (some ⟨b, o + i * 2, none⟩))) rfl (by kernel_rfl) (by kernel_rfl) (by kernel_rfl) (fun _ _ _ h => h) (by rfl) ?_ (by assumption) ?_
      · intro w hSw
        go_simp
      simp only [Act.put, List.setIfInBounds_toArray, List.set_cons_zero, List.set_cons_succ]
      refine take_do (i := 6) (v := (.agg #[.int .i64 x, .int .i64 y])) rfl (by kernel_rfl) (by kernel_rfl) (by kernel_rfl) (fun _ _ _ h => h) (by rfl) ?_ (by assumption) ?_
      · intro w hSw
        obtain ⟨⟨r0, r1, r2, r3, r4, r5, r6⟩, _⟩ := rowN7 hSw.1
        rw [← HNN.out] at r5
        obtain ⟨_, q0, q1, _⟩ := hSw
        go_simp
      simp only [Act.put, List.setIfInBounds_toArray, List.set_cons_zero, List.set_cons_succ]
      refine wpAnyH_ready (rs := [1, 7]) (by kernel_rfl) (by simp) (AllReadyH.cons (at_drop (i := 1) rfl) (fun K2 hK => ?_) (AllReadyH.cons (at_drop (i := 7) rfl) (fun K2 hK => ?_) AllReadyH.nil))
      · obtain ⟨⟨z0, z1, z2, z3, z4, z5, z6⟩, _⟩ := rowN7 SZ.out.z
        rw [← HM.out] at z5
        go_simp
        refine hK.out _ _ hHeld (fun hHeld2 => ?_)
        clear hK hHeld z0 z1 z2 z3 z4 z5 z6
        have hHeld := hHeld2
        clear hHeld2
        refine take_call (i := 7) rfl (by kernel_rfl) (fun K2 hK => ?_)
        obtain ⟨Z1, hZ1⟩ : ∃ Z1, Z1 = Z.alloc (.cells #[.int .i64 x, .int .i64 y] 37) := ⟨_, rfl⟩
        have hb : Below Z.heap.size Z Z1 := by rw [hZ1]; exact nbel_alloc _ _
        obtain ⟨gx, hgx⟩ : ∃ gx, gx = Z.heap.size := ⟨_, rfl⟩
        have HM1 : Hid (IsIn (some ⟨gx, 0, none⟩) (([(x, y)] : List Ln.Nt).length * 2) (Ln.fl [(x, y)]) Z1) := by show IsIn _ _ _ _; rw [hZ1, hgx]; exact one_in Z 37 x y
        have SZ1 := Lib.hid (SZ.out.below hb)
        have hq : (fun V => V.rowIs w.heap.size 28 7 (rowN (stL s (some ⟨b, o, none⟩) k)) ∧ V.cell? ⟨b, o + i * 2, none⟩ = some (.int .i64 x) ∧ V.cell? ⟨b, o + i * 2 + 1, none⟩ = some (.int .i64 y) ∧ b ≠ X ∧ Below w.heap.size w V) Z1 := ⟨nrow_below hHeld.1 hb, (hb.cell (World.block_lt_of_cell? _ _ hHeld.2.1)).trans hHeld.2.1, (hb.cell (World.block_lt_of_cell? _ _ hHeld.2.2.1)).trans hHeld.2.2.1, hHeld.2.2.2.1, hHeld.2.2.2.2.trans (hb.mono hHeld.2.2.2.2.size)⟩
        go_simp
        rw [← hZ1, ← hgx]
        refine hK.out _ _ hq (fun hHeld2 => ?_)
        clear hK hHeld hb hq hZ1 hgx
        have hHeld := hHeld2
        clear hHeld2
        refine take_call (i := 8) rfl (by kernel_rfl) (fun K2 hK => ?_)
        have hsz := SZ1.out.x.lt
        have hsy := SZ1.out.y.lt
        refine step_append_ns rfl (.tmp 31) (.tmp 37) 26 rfl 37 i0 (.agg #[.int .i64 0, .int .i64 0]) 16 Tryz.underlying26 hi hz0 hz1 hz2 rfl (w.heap.size + 2) (.slice a5 M k5) L [(x, y)] rfl (by rw [HM.out]; exact SZ1.out.own) (some ⟨gx, 0, none⟩) 1 rfl HM1.out (by unfold maxLen; have := HLL.out; simp; omega) (by have := HLL.out; simp; omega) (by omega) ?_
        intro v6 Z2 hown hgrow
        obtain ⟨L2, hL2⟩ : ∃ L2, L2 = L ++ [(x, y)] := ⟨_, rfl⟩
        have hown2 : Z2.ownsRow (w.heap.size + 2) 37 2 v6 L2.length (nvs L2) := by rw [hL2]; exact hown
        rw [HM.out] at hgrow
        obtain ⟨a6, k6, rfl, _, _⟩ := own_ns hown2
        obtain ⟨hzr, hxr, hbl, hpush⟩ := SZ1.out.push HA0.out hXs hgrow hown2
        have HPU := Lib.hid hpush
        have hcc : ∀ c v, Z1.cell? ⟨b, c, none⟩ = some v → Z2.cell? ⟨b, c, none⟩ = some v := fun c v hv => by
          have hlb := BLT.out
          have e1 := SZ1.out.bel.block b hlb
          have e2 := hbl.block b hlb
          rw [World.cell?_of_block (a := ⟨b, c, none⟩) (e2.trans e1.symm)]
          exact hv
        have hq : (fun V => V.rowIs w.heap.size 28 7 (rowN (stL s (some ⟨b, o, none⟩) k)) ∧ V.cell? ⟨b, o + i * 2, none⟩ = some (.int .i64 x) ∧ V.cell? ⟨b, o + i * 2 + 1, none⟩ = some (.int .i64 y) ∧ b ≠ X ∧ Below w.heap.size w V) Z2 := ⟨hxr, hcc _ _ hHeld.2.1, hcc _ _ hHeld.2.2.1, hHeld.2.2.2.1, hbl⟩
        have HZR := Lib.hid hzr
        refine hK.out _ _ hq (fun hHeld2 => ?_)
        clear hK hHeld hq hown hown2 hgrow hxr hbl hpush hcc SZ SZ1 HM1 hsz hsy hzr
        have hHeld := hHeld2
        clear hHeld2
        simp only [Act.put, List.setIfInBounds_toArray, List.set_cons_zero, List.set_cons_succ]
        refine take_do (i := 9) (v := (.pointer (some ⟨X, 5, none⟩))) rfl (by kernel_rfl) (by kernel_rfl) (by kernel_rfl) (fun _ _ _ h => h) (by rfl) ?_ (by assumption) ?_
        · intro w hSw
          go_simp
        simp only [Act.put, List.setIfInBounds_toArray, List.set_cons_zero, List.set_cons_succ]
        obtain ⟨⟨z0, z1, z2, z3, z4, z5, z6⟩, p0, p1, p2, p3, p4, p5, p6⟩ := rowN7 HZR.out
        have hl2 := HZR.out.lt
        obtain ⟨WZ, hWZ⟩ : ∃ WZ, WZ = Z2.setCell ⟨X, 5, none⟩ (.slice a6 L2.length k6) := ⟨_, rfl⟩
        have SF : Hid (HdI s (some ⟨b, o, none⟩) k X a6 k6 L2 w WZ) := by show HdI _ _ _ _ _ _ _ _ _; rw [hWZ]; exact HPU.out
        have hq : (fun V => V.rowIs w.heap.size 28 7 (rowN (stL s (some ⟨b, o, none⟩) k)) ∧ V.cell? ⟨b, o + i * 2, none⟩ = some (.int .i64 x) ∧ V.cell? ⟨b, o + i * 2 + 1, none⟩ = some (.int .i64 y) ∧ b ≠ X ∧ Below w.heap.size w V) WZ := by
          refine ⟨SF.out.x, ?_, ?_, hHeld.2.2.2.1, SF.out.bel⟩
          · rw [hWZ, World.cell?_setCell_other _ _ _ _ (by intro h2; have := congrArg Addr.block h2; simp at this; exact hHeld.2.2.2.1 this.symm)]; exact hHeld.2.1
          · rw [hWZ, World.cell?_setCell_other _ _ _ _ (by intro h2; have := congrArg Addr.block h2; simp at this; exact hHeld.2.2.2.1 this.symm)]; exact hHeld.2.2.1
        have HWZ := Lib.hid hWZ
        have HL2 := Lib.hid hL2
        obtain ⟨M2, hM2⟩ : ∃ M2, M2 = L2.length := ⟨_, rfl⟩
        rw [← hM2] at HWZ ⊢
        clear hWZ hL2 hM2
        refine take_call (i := 10) rfl (by kernel_rfl) (fun K2 hK => ?_)
        go_simp
        rw [← HWZ.out]
        refine hK.out _ _ hq (fun hHeld2 => ?_)
        clear hK hHeld hHeld2 HWZ z0 z1 z2 z3 z4 z5 z6 p0 p1 p2 p3 p4 p5 p6 hl2 hq HPU HZR
        refine wpAnyH_done (by kernel_rfl) ?_ _
        go_wp2_with fail
        go_roundw
        case rel => exact ⟨i + 1, a6, k6, by omega, by go_num, by rw [HE2.out, ← HL2.out]; exact SF⟩
        case measure => simp [intOf]; omega
      · obtain ⟨Z1, hZ1⟩ : ∃ Z1, Z1 = Z.alloc (.cells #[.int .i64 x, .int .i64 y] 37) := ⟨_, rfl⟩
        have hb : Below Z.heap.size Z Z1 := by rw [hZ1]; exact nbel_alloc _ _
        obtain ⟨gx, hgx⟩ : ∃ gx, gx = Z.heap.size := ⟨_, rfl⟩
        have HM1 : Hid (IsIn (some ⟨gx, 0, none⟩) (([(x, y)] : List Ln.Nt).length * 2) (Ln.fl [(x, y)]) Z1) := by show IsIn _ _ _ _; rw [hZ1, hgx]; exact one_in Z 37 x y
        have SZ1 := Lib.hid (SZ.out.below hb)
        have hq : (fun V => V.rowIs w.heap.size 28 7 (rowN (stL s (some ⟨b, o, none⟩) k)) ∧ V.cell? ⟨b, o + i * 2, none⟩ = some (.int .i64 x) ∧ V.cell? ⟨b, o + i * 2 + 1, none⟩ = some (.int .i64 y) ∧ b ≠ X ∧ Below w.heap.size w V) Z1 := ⟨nrow_below hHeld.1 hb, (hb.cell (World.block_lt_of_cell? _ _ hHeld.2.1)).trans hHeld.2.1, (hb.cell (World.block_lt_of_cell? _ _ hHeld.2.2.1)).trans hHeld.2.2.1, hHeld.2.2.2.1, hHeld.2.2.2.2.trans (hb.mono hHeld.2.2.2.2.size)⟩
        go_simp
        rw [← hZ1, ← hgx]
        refine hK.out _ _ hq (fun hHeld2 => ?_)
        clear hK hHeld hb hq hZ1 hgx
        have hHeld := hHeld2
        clear hHeld2
        refine take_call (i := 1) rfl (by kernel_rfl) (fun K2 hK => ?_)
        obtain ⟨⟨z0, z1, z2, z3, z4, z5, z6⟩, _⟩ := rowN7 SZ1.out.z
        rw [← HM.out] at z5
        go_simp
        refine hK.out _ _ hHeld (fun hHeld2 => ?_)
        clear hK hHeld z0 z1 z2 z3 z4 z5 z6
        have hHeld := hHeld2
        clear hHeld2
        refine take_call (i := 8) rfl (by kernel_rfl) (fun K2 hK => ?_)
        have hsz := SZ1.out.x.lt
        have hsy := SZ1.out.y.lt
        refine step_append_ns rfl (.tmp 31) (.tmp 37) 26 rfl 37 i0 (.agg #[.int .i64 0, .int .i64 0]) 16 Tryz.underlying26 hi hz0 hz1 hz2 rfl (w.heap.size + 2) (.slice a5 M k5) L [(x, y)] rfl (by rw [HM.out]; exact SZ1.out.own) (some ⟨gx, 0, none⟩) 1 rfl HM1.out (by unfold maxLen; have := HLL.out; simp; omega) (by have := HLL.out; simp; omega) (by omega) ?_
        intro v6 Z2 hown hgrow
        obtain ⟨L2, hL2⟩ : ∃ L2, L2 = L ++ [(x, y)] := ⟨_, rfl⟩
        have hown2 : Z2.ownsRow (w.heap.size + 2) 37 2 v6 L2.length (nvs L2) := by rw [hL2]; exact hown
        rw [HM.out] at hgrow
        obtain ⟨a6, k6, rfl, _, _⟩ := own_ns hown2
        obtain ⟨hzr, hxr, hbl, hpush⟩ := SZ1.out.push HA0.out hXs hgrow hown2
        have HPU := Lib.hid hpush
        have hcc : ∀ c v, Z1.cell? ⟨b, c, none⟩ = some v → Z2.cell? ⟨b, c, none⟩ = some v := fun c v hv => by
          have hlb := BLT.out
          have e1 := SZ1.out.bel.block b hlb
          have e2 := hbl.block b hlb
          rw [World.cell?_of_block (a := ⟨b, c, none⟩) (e2.trans e1.symm)]
          exact hv
        have hq : (fun V => V.rowIs w.heap.size 28 7 (rowN (stL s (some ⟨b, o, none⟩) k)) ∧ V.cell? ⟨b, o + i * 2, none⟩ = some (.int .i64 x) ∧ V.cell? ⟨b, o + i * 2 + 1, none⟩ = some (.int .i64 y) ∧ b ≠ X ∧ Below w.heap.size w V) Z2 := ⟨hxr, hcc _ _ hHeld.2.1, hcc _ _ hHeld.2.2.1, hHeld.2.2.2.1, hbl⟩
        have HZR := Lib.hid hzr
        refine hK.out _ _ hq (fun hHeld2 => ?_)
        clear hK hHeld hq hown hown2 hgrow hxr hbl hpush hcc SZ SZ1 HM1 hsz hsy hzr
        have hHeld := hHeld2
        clear hHeld2
        simp only [Act.put, List.setIfInBounds_toArray, List.set_cons_zero, List.set_cons_succ]
        refine take_do (i := 9) (v := (.pointer (some ⟨X, 5, none⟩))) rfl (by kernel_rfl) (by kernel_rfl) (by kernel_rfl) (fun _ _ _ h => h) (by rfl) ?_ (by assumption) ?_
        · intro w hSw
          go_simp
        simp only [Act.put, List.setIfInBounds_toArray, List.set_cons_zero, List.set_cons_succ]
        obtain ⟨⟨z0, z1, z2, z3, z4, z5, z6⟩, p0, p1, p2, p3, p4, p5, p6⟩ := rowN7 HZR.out
        have hl2 := HZR.out.lt
        obtain ⟨WZ, hWZ⟩ : ∃ WZ, WZ = Z2.setCell ⟨X, 5, none⟩ (.slice a6 L2.length k6) := ⟨_, rfl⟩
        have SF : Hid (HdI s (some ⟨b, o, none⟩) k X a6 k6 L2 w WZ) := by show HdI _ _ _ _ _ _ _ _ _; rw [hWZ]; exact HPU.out
        have hq : (fun V => V.rowIs w.heap.size 28 7 (rowN (stL s (some ⟨b, o, none⟩) k)) ∧ V.cell? ⟨b, o + i * 2, none⟩ = some (.int .i64 x) ∧ V.cell? ⟨b, o + i * 2 + 1, none⟩ = some (.int .i64 y) ∧ b ≠ X ∧ Below w.heap.size w V) WZ := by
          refine ⟨SF.out.x, ?_, ?_, hHeld.2.2.2.1, SF.out.bel⟩
          · rw [hWZ, World.cell?_setCell_other _ _ _ _ (by intro h2; have := congrArg Addr.block h2; simp at this; exact hHeld.2.2.2.1 this.symm)]; exact hHeld.2.1
          · rw [hWZ, World.cell?_setCell_other _ _ _ _ (by intro h2; have := congrArg Addr.block h2; simp at this; exact hHeld.2.2.2.1 this.symm)]; exact hHeld.2.2.1
        have HWZ := Lib.hid hWZ
        have HL2 := Lib.hid hL2
        obtain ⟨M2, hM2⟩ : ∃ M2, M2 = L2.length := ⟨_, rfl⟩
        rw [← hM2] at HWZ ⊢
        clear hWZ hL2 hM2
        refine take_call (i := 10) rfl (by kernel_rfl) (fun K2 hK => ?_)
        go_simp
        rw [← HWZ.out]
        refine hK.out _ _ hq (fun hHeld2 => ?_)
        clear hK hHeld hHeld2 HWZ z0 z1 z2 z3 z4 z5 z6 p0 p1 p2 p3 p4 p5 p6 hl2 hq HPU HZR
        refine wpAnyH_done (by kernel_rfl) ?_ _
        go_wp2_with fail
        go_roundw
        case rel => exact ⟨i + 1, a6, k6, by omega, by go_num, by rw [HE2.out, ← HL2.out]; exact SF⟩
        case measure => simp [intOf]; omega
    · obtain rfl : i = N := by omega
      have HLE : Hid (L = Ln.left q s.wait) := by show _ = _; rw [HL.out, HNN.out, List.take_length]
      obtain ⟨a5', k5', e5, hq5, _⟩ := own_ns hS.out.own
      cases e5
      have HQ5 := Lib.hid hq5
      have HBV := Lib.hid hS.out.bel
      have HYV := Lib.hid hS.out.y
      clear hq5
      have zr := Lib.hid (lput7 HYV.out rfl (.int .i64 s.unit) (.int .i64 s.band) (.bool s.seen) (.int .i64 s.last) (.int .i64 s.next) (.slice a5 M k5) (.int .i64 s.drops))
      have zb := Lib.hid (lbel7 HBV.out (g := w.heap.size + 1) (by omega) (.int .i64 s.unit) (.int .i64 s.band) (.bool s.seen) (.int .i64 s.last) (.int .i64 s.next) (.slice a5 M k5) (.int .i64 s.drops))
      have zq : Hid (NqOwn 37 w.heap.size L.length a5 (Ln.fl L) ((((((((wr.setCell ⟨w.heap.size + 1, 0, none⟩ (.int .i64 s.unit)).setCell ⟨w.heap.size + 1, 1, none⟩ (.int .i64 s.band)).setCell ⟨w.heap.size + 1, 2, none⟩ (.bool s.seen)).setCell ⟨w.heap.size + 1, 3, none⟩ (.int .i64 s.last)).setCell ⟨w.heap.size + 1, 4, none⟩ (.int .i64 s.next)).setCell ⟨w.heap.size + 1, 5, none⟩ (.slice a5 M k5)).setCell ⟨w.heap.size + 1, 6, none⟩ (.int .i64 s.drops)))) := (HQ5.out.same (fun k hk _ => lblk7 (by omega) _ _ _ _ _ _ _)).low (by omega)
      go_wp2_with fail
      refine bodyPost_ret (v := stV ⟨s.unit, s.band, s.seen, s.last, s.next, L, s.drops⟩ a5 k5) ?_ rfl ⟨by rw [HE.out, ← HLE.out]; exact ⟨a5, k5, rfl, zq.out⟩, zb.out⟩
      obtain ⟨⟨u0, u1, u2, u3, u4, u5, u6⟩, _⟩ := rowN7 zr.out
      simp only [results, Tryz.results15]
      simp only [stV, ← HM.out]
      simp [go_sem, u0, u1, u2, u3, u4, u5, u6]
end Go.Proofs.YtdlojhncbgfjbaaGreatDoor
namespace Go.Proofs.YtdlojhncbgfjbaaGreatDoor
open Go Go.RowKit

section
variable {P : Program} {ops : Array Oper} {Q : Exit → Act → World → Prop} {md : Region.Mode} {S : World → Prop} {st : Nat}
/-- Whatever order is picked; the condition holds behind every operation but the last one. -/
def wpL (P : Program) (md : Region.Mode) (ops : Array Oper) (Q : Exit → Act → World → Prop) (S : World → Prop) (st : Nat) : Nat → Array Bool → Act → World → Prop
  | 0, listed, a, w => Region.ready md ops listed = [] ∧ Q .normal a w
  | fuel + 1, listed, a, w => (Region.ready md ops listed = [] → Q .normal a w) ∧
      ∀ i ∈ Region.ready md ops listed, wpOp P ops Q i (fun a' w' => (i ≠ st → S w') ∧ wpL P md ops Q S st fuel (listed.setIfInBounds i true) a' w') a w
theorem any_of_L : ∀ (fuel : Nat) (listed : Array Bool) (a : Act) (w : World), wpL P md ops Q S st fuel listed a w → wpAny P md ops Q fuel listed a w
  | 0, _, _, _, h => h
  | fuel + 1, _, _, _, h => ⟨h.1, fun i hi => wpOp_mono (fun a' w' k => any_of_L fuel _ a' w' k.2) (h.2 i hi)⟩
/-- The last one waits for number i. -/
def lastWaits (md : Region.Mode) (ops : Array Oper) (st i : Nat) : Bool := match ops[st]? with
  | none => false
  | some o => o.after.any (fun e => Region.binds md e && e.on == i)
theorem lastWaits_spec {i : Nat} (h : lastWaits md ops st i = true) : ∃ o, ops[st]? = some o ∧ ∃ e ∈ o.after, Region.binds md e = true ∧ e.on = i := by
  unfold lastWaits at h
  cases ho : ops[st]? with
  | none => rw [ho] at h; cases h
  | some o =>
    rw [ho] at h
    simp only [Array.any_eq_true'] at h
    obtain ⟨e, he, h2⟩ := h
    simp only [Bool.and_eq_true, beq_iff_eq] at h2
    exact ⟨o, rfl, e, he, h2.1, h2.2⟩
theorem L_first {i : Nat} {oi : Oper} {v : Value} (hi : ops[i]? = some oi) (hsel : ∀ (j : Nat) (o : Oper) cs b, ops[j]? = some o → o.op ≠ .select cs b)
    (hQ : ∀ c a w, Q (.panic c) (a.put oi.dst v) w → Q (.panic c) a w) (hw : lastWaits md ops st i = true) (hne : i ≠ st) :
    ∀ (fuel : Nat) (listed : Array Bool) (a : Act) (w : World),
      (∀ j oj, ops[j]? = some oj → j ≠ i → listed.getD j true = false → (∀ e ∈ oj.after, Region.binds md e = true → e.on ≠ i) → oi.apart ops oj = true) →
      i ∈ Region.ready md ops listed → YieldsIf P ops S oi v a → S w →
      wpL P md ops Q S st fuel (listed.setIfInBounds i true) (a.put oi.dst v) w → wpL P md ops Q S st (fuel + 1) listed a w := by
  intro fuel
  induction fuel with
  | zero =>
    intro listed a w _ hr hy hS H
    refine ⟨fun h => (by rw [h] at hr; cases hr), fun j hj => ?_⟩
    by_cases hji : j = i
    · subst hji; exact hy.wpOp hi hS ⟨fun _ => hS, H⟩
    · have k := ready_mono hj hji
      rw [H.1] at k
      cases k
  | succ fuel ih =>
    intro listed a w hfree hr hy hS H
    refine ⟨fun h => (by rw [h] at hr; cases hr), fun j hj => ?_⟩
    by_cases hji : j = i
    · subst hji; exact hy.wpOp hi hS ⟨fun _ => hS, H⟩
    have h1 := H.2 j (ready_mono hj hji)
    obtain ⟨hjun, oj, hoj, hall⟩ := mem_ready.1 hj
    have h0 := (mem_ready.1 hr).1
    have late : ∀ e ∈ oj.after, Region.binds md e = true → e.on ≠ i := fun e he hb heq => by
      have k := hall e he hb
      rw [heq] at k
      rcases Nat.lt_or_ge i listed.size with h' | h'
      · simp [h'] at h0 k; rw [h0] at k; cases k
      · simp [Array.getElem?_eq_none h'] at k
    have hjs : j ≠ st := fun e => by
      obtain ⟨o, ho, ee, h2, h3, h4⟩ := lastWaits_spec hw
      rw [← e, hoj] at ho
      cases ho
      exact late ee h2 h3 h4
    have h2 := wpOp_putIf hoj (hfree j oj hoj hji hjun late) (fun cs b => hsel i oi cs b hi) (fun cs b => hsel j oj cs b hoj) hQ hy h1
    have hfree' : ∀ k ok, ops[k]? = some ok → k ≠ i → (listed.setIfInBounds j true).getD k true = false →
        (∀ e ∈ ok.after, Region.binds md e = true → e.on ≠ i) → oi.apart ops ok = true := fun k ok hk hki hun hno => by
      refine hfree k ok hk hki ?_ hno
      by_cases hjk : j = k
      · subst hjk; exact hjun
      · rw [getD_set_ne true hjk] at hun; exact hun
    refine wpOp_mono (fun a' w' h3 => ⟨fun _ => h3.2.1 hjs, ih (listed.setIfInBounds j true) a' w' hfree' (ready_mono hr (Ne.symm hji)) h3.1 (h3.2.1 hjs) ?_⟩) h2
    rw [Array.setIfInBounds_comm _ _ hji]
    exact h3.2.2
theorem takeL_do {i : Nat} {oi : Oper} {rest : List Oper} {v : Value} {fuel : Nat} {listed : Array Bool} {a : Act} {w : World} (hi : ops.toList.drop i = oi :: rest)
    (hs : Region.noSelect ops = true) (hf : Region.free md ops listed i = true) (hr : (Region.ready md ops listed).contains i = true) (hl : (lastWaits md ops st i && (i != st)) = true)
    (hQ : ∀ c a w, Q (.panic c) (a.put oi.dst v) w → Q (.panic c) a w) (hw : Region.wanted oi (yielded ops a.tmps) = true) (hy : ∀ w, S w → (execOp a.eval oi).run P w = .ok (.value v) w) (hS : S w)
    (h : wpL P md ops Q S st fuel (listed.setIfInBounds i true) (a.put oi.dst v) w) : wpL P md ops Q S st (fuel + 1) listed a w := by
  simp only [Bool.and_eq_true, bne_iff_ne, ne_eq] at hl
  exact L_first (at_drop hi) (Region.noSelect_spec hs) hQ hl.1 hl.2 fuel listed a w (Region.free_spec (at_drop hi) hf) (by simpa using hr) (Or.inl ⟨hw, hy⟩) hS h
/-- Each of these may come up. -/
def AllL (P : Program) (md : Region.Mode) (ops : Array Oper) (Q : Exit → Act → World → Prop) (S : World → Prop) (st : Nat) (fuel : Nat) (listed : Array Bool) (a : Act) (w : World) (rs : List Nat) : Prop :=
  ∀ i ∈ rs, wpOp P ops Q i (fun a' w' => (i ≠ st → S w') ∧ wpL P md ops Q S st fuel (listed.setIfInBounds i true) a' w') a w
theorem AllL.nil {fuel : Nat} {listed : Array Bool} {a : Act} {w : World} : AllL P md ops Q S st fuel listed a w [] := fun _ h => by cases h
theorem AllL.cons {fuel : Nat} {listed : Array Bool} {a : Act} {w : World} {i : Nat} {oi : Oper} {rest : List Oper} {rs : List Nat} (hi : ops.toList.drop i = oi :: rest)
    (h : ∀ K' : Act → World → Prop, Shut (∀ a w, S w → (S w → wpL P md ops Q S st fuel (listed.setIfInBounds i true) a w) → K' a w) → if Region.wanted oi (yielded ops a.tmps) = true then Oper.wp P oi a w K' Q else K' (a.put oi.dst undef) w)
    (hs : AllL P md ops Q S st fuel listed a w rs) : AllL P md ops Q S st fuel listed a w (i :: rs) := fun j hj => by
  rcases List.mem_cons.1 hj with rfl | hj
  · exact wpOp_step (at_drop hi) (fun K' hK => h K' (fun a w hS hW => hK a w ⟨fun _ => hS, hW hS⟩))
  · exact hs j hj
theorem L_ready {rs : List Nat} {fuel : Nat} {listed : Array Bool} {a : Act} {w : World} (hr : Region.ready md ops listed = rs) (hne : rs ≠ [])
    (h : AllL P md ops Q S st fuel listed a w rs) : wpL P md ops Q S st (fuel + 1) listed a w := ⟨fun h0 => absurd (hr ▸ h0) hne, hr ▸ h⟩
theorem takeL_call {i : Nat} {oi : Oper} {rest : List Oper} {fuel : Nat} {listed : Array Bool} {a : Act} {w : World} (hi : ops.toList.drop i = oi :: rest) (hr : Region.ready md ops listed = [i])
    (h : ∀ K' : Act → World → Prop, Shut (∀ a w, S w → (S w → wpL P md ops Q S st fuel (listed.setIfInBounds i true) a w) → K' a w) → if Region.wanted oi (yielded ops a.tmps) = true then Oper.wp P oi a w K' Q else K' (a.put oi.dst undef) w) :
    wpL P md ops Q S st (fuel + 1) listed a w := L_ready hr (by simp) (AllL.cons hi h AllL.nil)
/-- The last one. -/
theorem takeL_last {oi : Oper} {rest : List Oper} {fuel : Nat} {listed : Array Bool} {a : Act} {w : World} (hi : ops.toList.drop st = oi :: rest) (hr : Region.ready md ops listed = [st]) (hd : Region.ready md ops (listed.setIfInBounds st true) = [])
    (h : ∀ K' : Act → World → Prop, Shut (∀ a w, Q .normal a w → K' a w) → if Region.wanted oi (yielded ops a.tmps) = true then Oper.wp P oi a w K' Q else K' (a.put oi.dst undef) w) :
    wpL P md ops Q S st (fuel + 1) listed a w := by
  refine ⟨fun h0 => (by rw [hr] at h0; cases h0), fun j hj => ?_⟩
  rw [hr] at hj
  obtain rfl : j = st := by simpa using hj
  refine wpOp_step (at_drop hi) (fun K' hK => h K' (fun a w hW => hK a w ⟨fun h => absurd rfl h, ?_⟩))
  cases fuel with
  | zero => exact ⟨hd, hW⟩
  | succ fuel => exact ⟨fun _ => hW, by rw [hd]; simp⟩
theorem region_L (S : World → Prop) (st : Nat) {id : Nat} {a : Act} {w : World} (hm : P.follows .mixedOrders = true) (hS : S w.drew)
    (h : S w.drew → wpL P .any ops Q S st ops.size (Array.replicate ops.size false) a w.drew) : (Code.region id ops true).wp P Q a w :=
  wp_region_any hm (any_of_L _ _ _ _ (h hS))
end
end Go.Proofs.YtdlojhncbgfjbaaGreatDoor
namespace Go.Proofs.YtdlojhncbgfjbaaGreatDoor
open Go.RowKit Go.Deep

structure SpS (o sb mb : Nat) (S : Ln.S) (M : Ln.M) (a : Option Addr) (k : Nat) (b : Option Addr) (l : Nat) (w W : World) : Prop where
  ro : W.rowIs o 32 11 (rowN loZ)
  rs : W.rowIs sb 28 7 (rowN (stL S a k))
  rm : W.rowIs mb 30 3 (rowN (maL M b l))
  ts : NqOwn 37 (mb + 1) S.wait.length a (Ln.fl S.wait) W
  tm : NqOwn 37 (mb + 1) M.notes.length b (Ln.fl M.notes) W
  dj : ∀ g o g' o', S.wait.length ≠ 0 → M.notes.length ≠ 0 → a = some ⟨g, o, none⟩ → b = some ⟨g', o', none⟩ → g ≠ g'
  num : w.heap.size ≤ o ∧ o < sb ∧ sb < mb
  bel : Below w.heap.size w W
section
variable {o sb mb : Nat} {S S' : Ln.S} {M M' : Ln.M} {a a' : Option Addr} {k k' : Nat} {b b' : Option Addr} {l l' : Nat} {w W W' : World}
theorem SpS.below (h : SpS o sb mb S M a k b l w W) (hb : Below W.heap.size W W') : SpS o sb mb S M a k b l w W' :=
  ⟨nrow_below h.ro hb, nrow_below h.rs hb, nrow_below h.rm hb, h.ts.below hb, h.tm.below hb, h.dj, h.num, h.bel.trans (hb.mono h.bel.size)⟩
theorem SpS.setS (h : SpS o sb mb S M a k b l w W) (hb : Below W.heap.size W W') (hq : NqOwn 37 W.heap.size S'.wait.length a' (Ln.fl S'.wait) W') : SpS o sb mb S' M a' k' b l w (((((((W'.setCell ⟨sb, 0, none⟩ (.int .i64 S'.unit)).setCell ⟨sb, 1, none⟩ (.int .i64 S'.band)).setCell ⟨sb, 2, none⟩ (.bool S'.seen)).setCell ⟨sb, 3, none⟩ (.int .i64 S'.last)).setCell ⟨sb, 4, none⟩ (.int .i64 S'.next)).setCell ⟨sb, 5, none⟩ (.slice a' S'.wait.length k')).setCell ⟨sb, 6, none⟩ (.int .i64 S'.drops)) := by
  obtain ⟨o1, o2, o3⟩ := h.num
  have hl := h.rm.lt
  have h' := h.below hb
  have hO := (((((((LnOnly.set (p := sb) W' 0 (.int .i64 S'.unit)).trans (LnOnly.set _ 1 (.int .i64 S'.band))).trans (LnOnly.set _ 2 (.bool S'.seen))).trans (LnOnly.set _ 3 (.int .i64 S'.last))).trans (LnOnly.set _ 4 (.int .i64 S'.next))).trans (LnOnly.set _ 5 (.slice a' S'.wait.length k'))).trans (LnOnly.set _ 6 (.int .i64 S'.drops)))
  refine ⟨hO.row (by omega) h'.ro, lput7 h'.rs rfl (.int .i64 S'.unit) (.int .i64 S'.band) (.bool S'.seen) (.int .i64 S'.last) (.int .i64 S'.next) (.slice a' S'.wait.length k') (.int .i64 S'.drops), hO.row (by omega) h'.rm, hO.own (by omega) (hq.low (by omega)), hO.own (by omega) h'.tm, fun g oo g' o' e1 e2 e3 e4 => ?_, h.num, hO.bel h'.bel (by omega) h'.bel.size⟩
  have hlt := h.tm.lt g' o' e2 e4
  rcases hq with e | ⟨g2, oo2, e5, e6, _⟩
  · exact absurd e e1
  · rw [e5] at e3
    cases e3
    omega
theorem SpS.setM (h : SpS o sb mb S M a k b l w W) (hb : Below W.heap.size W W') (hq : NqOwn 37 W.heap.size M'.notes.length b' (Ln.fl M'.notes) W') : SpS o sb mb S M' a k b' l' w (((W'.setCell ⟨mb, 0, none⟩ (.int .i64 M'.seq)).setCell ⟨mb, 1, none⟩ (.slice b' M'.notes.length l')).setCell ⟨mb, 2, none⟩ (.int .i64 M'.gaps)) := by
  obtain ⟨o1, o2, o3⟩ := h.num
  have hl := h.rm.lt
  have h' := h.below hb
  have hO := (((LnOnly.set (p := mb) W' 0 (.int .i64 M'.seq)).trans (LnOnly.set _ 1 (.slice b' M'.notes.length l'))).trans (LnOnly.set _ 2 (.int .i64 M'.gaps)))
  refine ⟨hO.row (by omega) h'.ro, hO.row (by omega) h'.rs, lput3 h'.rm rfl (.int .i64 M'.seq) (.slice b' M'.notes.length l') (.int .i64 M'.gaps), hO.own (by omega) h'.ts, hO.own (by omega) (hq.low (by omega)), fun g oo g' o' e1 e2 e3 e4 => ?_, h.num, hO.bel h'.bel (by omega) h'.bel.size⟩
  have hlt := h.ts.lt g oo e1 e3
  rcases hq with e | ⟨g2, oo2, e5, e6, _⟩
  · exact absurd e e2
  · rw [e5] at e4
    cases e4
    omega
end
set_option maxRecDepth 100000 in
set_option maxHeartbeats 16000000 in
theorem specRun_any (u b : Int) (ea : Option Addr) (n ec : Nat) (f : Nat → Int) (w : World) (h : IsIn ea (n * 2) f w) (hnm : n ≤ 1048576) :
    Calls Tryz.prog 6 #[.int .i64 u, .int .i64 b, .slice ea n ec] w fun e W' => LoEnd (Ln.lst u b f n) (Ln.lma u b f n) (Ln.lcode u b f n) w.heap.size e W' ∧ Below w.heap.size w W' := by
  obtain ⟨W, hW⟩ : ∃ W, W = w.alloc (.cells #[.int .i64 0, .int .i64 0, .bool false, .int .i64 0, .int .i64 0, .slice none 0 0, .int .i64 0, .int .i64 0, .slice none 0 0, .int .i64 0, .int .i64 0] 32) := ⟨_, rfl⟩
  have HB : Hid (Below w.heap.size w W) := by show Below _ _ _; rw [hW]; exact nbel_alloc _ _
  have HY : Hid (W.rowIs w.heap.size 32 11 (rowN loZ)) := by show W.rowIs _ _ _ _; rw [hW]; exact rowN_alloc w loZ _
  have H := Lib.hid h
  have HW := Lib.hid hW
  clear h hW
  go_enter Tryz.func6, Tryz.ntmps6
  by_cases k0 : (200 : Int) < (n : Int)
  · have HE := Lib.hid (Ln.lout_big (u := u) (b := b) (f := f) (n := n) (by omega))
    have zr := Lib.hid (rowN_alloc w [.int .i64 0, .int .i64 0, .bool false, .int .i64 0, .int .i64 0, .slice none 0 0, .int .i64 0, .int .i64 0, .slice none 0 0, .int .i64 0, .int .i64 2] 32)
    have zb := Lib.hid (nbel_alloc w (.cells #[.int .i64 0, .int .i64 0, .bool false, .int .i64 0, .int .i64 0, .slice none 0 0, .int .i64 0, .int .i64 0, .slice none 0 0, .int .i64 0, .int .i64 2] 32))
    go_wp2_with fail
    refine bodyPost_ret (v := loV Ln.S.zero Ln.M.new none 0 none 0 2) ?_ rfl ⟨by rw [HE.out.1, HE.out.2.1, HE.out.2.2]; exact LoEnd.zero 2 _ _, zb.out⟩
    obtain ⟨⟨t0, t1, t2, t3, t4, t5, t6, t7, t8, t9, t10⟩, _⟩ := rowN11 zr.out
    simp only [results, Tryz.results6]
    simp [go_sem, t0, t1, t2, t3, t4, t5, t6, t7, t8, t9, t10, loV, Ln.S.zero, Ln.M.new]
  have hn : n ≤ 200 := by omega
  by_cases k1 : u < 0
  · have HE := Lib.hid (Ln.lout_no (u := u) (b := b) (f := f) hn (fun h => by obtain ⟨⟨⟨_, _⟩, _, _⟩, _⟩ := h; omega))
    have zr := Lib.hid (rowN_alloc w [.int .i64 0, .int .i64 0, .bool false, .int .i64 0, .int .i64 0, .slice none 0 0, .int .i64 0, .int .i64 0, .slice none 0 0, .int .i64 0, .int .i64 1] 32)
    have zb := Lib.hid (nbel_alloc w (.cells #[.int .i64 0, .int .i64 0, .bool false, .int .i64 0, .int .i64 0, .slice none 0 0, .int .i64 0, .int .i64 0, .slice none 0 0, .int .i64 0, .int .i64 1] 32))
    go_wp2_with fail
    refine bodyPost_ret (v := loV Ln.S.zero Ln.M.new none 0 none 0 1) ?_ rfl ⟨by rw [HE.out.1, HE.out.2.1, HE.out.2.2]; exact LoEnd.zero 1 _ _, zb.out⟩
    obtain ⟨⟨t0, t1, t2, t3, t4, t5, t6, t7, t8, t9, t10⟩, _⟩ := rowN11 zr.out
    simp only [results, Tryz.results6]
    simp [go_sem, t0, t1, t2, t3, t4, t5, t6, t7, t8, t9, t10, loV, Ln.S.zero, Ln.M.new]
  by_cases k2 : 250 < u
  · have HE := Lib.hid (Ln.lout_no (u := u) (b := b) (f := f) hn (fun h => by obtain ⟨⟨⟨_, _⟩, _, _⟩, _⟩ := h; omega))
    have zr := Lib.hid (rowN_alloc w [.int .i64 0, .int .i64 0, .bool false, .int .i64 0, .int .i64 0, .slice none 0 0, .int .i64 0, .int .i64 0, .slice none 0 0, .int .i64 0, .int .i64 1] 32)
    have zb := Lib.hid (nbel_alloc w (.cells #[.int .i64 0, .int .i64 0, .bool false, .int .i64 0, .int .i64 0, .slice none 0 0, .int .i64 0, .int .i64 0, .slice none 0 0, .int .i64 0, .int .i64 1] 32))
    go_wp2_with fail
    refine bodyPost_ret (v := loV Ln.S.zero Ln.M.new none 0 none 0 1) ?_ rfl ⟨by rw [HE.out.1, HE.out.2.1, HE.out.2.2]; exact LoEnd.zero 1 _ _, zb.out⟩
    obtain ⟨⟨t0, t1, t2, t3, t4, t5, t6, t7, t8, t9, t10⟩, _⟩ := rowN11 zr.out
    simp only [results, Tryz.results6]
    simp [go_sem, t0, t1, t2, t3, t4, t5, t6, t7, t8, t9, t10, loV, Ln.S.zero, Ln.M.new]
  by_cases k3 : b < 0
  · have HE := Lib.hid (Ln.lout_no (u := u) (b := b) (f := f) hn (fun h => by obtain ⟨⟨⟨_, _⟩, _, _⟩, _⟩ := h; omega))
    have zr := Lib.hid (rowN_alloc w [.int .i64 0, .int .i64 0, .bool false, .int .i64 0, .int .i64 0, .slice none 0 0, .int .i64 0, .int .i64 0, .slice none 0 0, .int .i64 0, .int .i64 1] 32)
    have zb := Lib.hid (nbel_alloc w (.cells #[.int .i64 0, .int .i64 0, .bool false, .int .i64 0, .int .i64 0, .slice none 0 0, .int .i64 0, .int .i64 0, .slice none 0 0, .int .i64 0, .int .i64 1] 32))
    go_wp2_with fail
    refine bodyPost_ret (v := loV Ln.S.zero Ln.M.new none 0 none 0 1) ?_ rfl ⟨by rw [HE.out.1, HE.out.2.1, HE.out.2.2]; exact LoEnd.zero 1 _ _, zb.out⟩
    obtain ⟨⟨t0, t1, t2, t3, t4, t5, t6, t7, t8, t9, t10⟩, _⟩ := rowN11 zr.out
    simp only [results, Tryz.results6]
    simp [go_sem, t0, t1, t2, t3, t4, t5, t6, t7, t8, t9, t10, loV, Ln.S.zero, Ln.M.new]
  by_cases k4 : 1000000 < b
  · have HE := Lib.hid (Ln.lout_no (u := u) (b := b) (f := f) hn (fun h => by obtain ⟨⟨⟨_, _⟩, _, _⟩, _⟩ := h; omega))
    have zr := Lib.hid (rowN_alloc w [.int .i64 0, .int .i64 0, .bool false, .int .i64 0, .int .i64 0, .slice none 0 0, .int .i64 0, .int .i64 0, .slice none 0 0, .int .i64 0, .int .i64 1] 32)
    have zb := Lib.hid (nbel_alloc w (.cells #[.int .i64 0, .int .i64 0, .bool false, .int .i64 0, .int .i64 0, .slice none 0 0, .int .i64 0, .int .i64 0, .slice none 0 0, .int .i64 0, .int .i64 1] 32))
    go_wp2_with fail
    refine bodyPost_ret (v := loV Ln.S.zero Ln.M.new none 0 none 0 1) ?_ rfl ⟨by rw [HE.out.1, HE.out.2.1, HE.out.2.2]; exact LoEnd.zero 1 _ _, zb.out⟩
    obtain ⟨⟨t0, t1, t2, t3, t4, t5, t6, t7, t8, t9, t10⟩, _⟩ := rowN11 zr.out
    simp only [results, Tryz.results6]
    simp [go_sem, t0, t1, t2, t3, t4, t5, t6, t7, t8, t9, t10, loV, Ln.S.zero, Ln.M.new]
  have HF : Hid (Ln.Fit u b) := ⟨⟨by omega, by omega⟩, by omega, by omega⟩
  go_wp2_with fail
  rw [← HW.out]
  clear HW k1 k2 k3 k4
  go_loopw [7, 8] (fun iv _ wr => ∃ (i : Nat), i ≤ n ∧ iv = .int .i64 i ∧ Hid (Ln.EvsOk f i) ∧ Hid (Below w.heap.size w wr) ∧ Hid (wr.rowIs w.heap.size 32 11 (rowN loZ))) (fun iv _ _ => n - (intOf iv).toNat)
  case atStart => exact ⟨0, Nat.zero_le _, rfl, Ln.EvsOk.zero f, HB, HY⟩
  case round =>
    obtain ⟨i, hin, rfl, hok, hB, hY⟩ := hrel
    by_cases hlt : i < n
    · have hltz : (i : Int) < (n : Int) := by omega
      obtain ⟨g, o, hea, c0, c1⟩ := (H.out.below hB.out).at2 hlt
      obtain ⟨x, hx⟩ : ∃ x, x = f (i * 2) := ⟨_, rfl⟩
      obtain ⟨y, hy⟩ : ∃ y, y = f (i * 2 + 1) := ⟨_, rfl⟩
      have HX := Lib.hid hx
      have HYV := Lib.hid hy
      rw [← hx] at c0
      rw [← hy] at c1
      clear hx hy
      have HEA := Lib.hid hea
      subst hea
      obtain ⟨V1, hV1⟩ : ∃ V1, V1 = wr.alloc (.cells #[.int .i64 x, .int .i64 y] 35) := ⟨_, rfl⟩
      have X1 : Hid (V1.rowIs wr.heap.size 35 2 (rowN [.int .i64 x, .int .i64 y])) := by show V1.rowIs _ _ _ _; rw [hV1]; exact rowN_alloc wr [.int .i64 x, .int .i64 y] _
      have B1 : Hid (Below w.heap.size w V1) := by show Below _ _ _; rw [hV1]; exact hB.out.trans ((nbel_alloc _ _).mono hB.out.size)
      have Y1 : Hid (V1.rowIs w.heap.size 32 11 (rowN loZ)) := by show V1.rowIs _ _ _ _; rw [hV1]; exact nrow_below hY.out (nbel_alloc _ _)
      obtain ⟨⟨x0, x1⟩, _⟩ := rowN2 X1.out
      have HV1 := Lib.hid hV1
      rw [hV1] at x0 x1
      have hlw : w.heap.size < wr.heap.size := hY.out.lt
      have HEN : Hid (¬ Ln.EvOk x y → Ln.lcode u b f n = 1 ∧ Ln.lst u b f n = Ln.S.zero ∧ Ln.lma u b f n = Ln.M.new) := fun h1 => Ln.lout_no hn (fun h2 => h1 (by rw [HX.out, HYV.out]; exact h2.2 i hlt))
      clear hV1
      by_cases q1 : x < 1
      · have HE := Lib.hid (HEN.out (fun h => by rcases h with h | h <;> omega))
        obtain ⟨⟨y0, y1, y2, y3, y4, y5, y6, y7, y8, y9, y10⟩, g0, g1, g2, g3, g4, g5, g6, g7, g8, g9, g10⟩ := rowN11 hY.out
        have zr := Lib.hid (nrow_below (lput11 hY.out rfl (.int .i64 0) (.int .i64 0) (.bool false) (.int .i64 0) (.int .i64 0) (.slice none 0 0) (.int .i64 0) (.int .i64 0) (.slice none 0 0) (.int .i64 0) (.int .i64 1)) (nbel_alloc _ (.cells #[.int .i64 x, .int .i64 y] 35)))
        have zb := Lib.hid ((lbel11 hB.out (Nat.le_refl _) (.int .i64 0) (.int .i64 0) (.bool false) (.int .i64 0) (.int .i64 0) (.slice none 0 0) (.int .i64 0) (.int .i64 0) (.slice none 0 0) (.int .i64 0) (.int .i64 1)).trans ((nbel_alloc _ (.cells #[.int .i64 x, .int .i64 y] 35)).mono (by simpa using hB.out.size)))
        go_wp2_with fail
        refine bodyPost_ret (v := loV Ln.S.zero Ln.M.new none 0 none 0 1) ?_ rfl ⟨by rw [HE.out.1, HE.out.2.1, HE.out.2.2]; exact LoEnd.zero 1 _ _, zb.out⟩
        obtain ⟨⟨t0, t1, t2, t3, t4, t5, t6, t7, t8, t9, t10⟩, _⟩ := rowN11 zr.out
        simp only [results, Tryz.results6]
        simp [go_sem, t0, t1, t2, t3, t4, t5, t6, t7, t8, t9, t10, loV, Ln.S.zero, Ln.M.new]
      by_cases q2 : 2 < x
      · have HE := Lib.hid (HEN.out (fun h => by rcases h with h | h <;> omega))
        obtain ⟨⟨y0, y1, y2, y3, y4, y5, y6, y7, y8, y9, y10⟩, g0, g1, g2, g3, g4, g5, g6, g7, g8, g9, g10⟩ := rowN11 hY.out
        have zr := Lib.hid (nrow_below (lput11 hY.out rfl (.int .i64 0) (.int .i64 0) (.bool false) (.int .i64 0) (.int .i64 0) (.slice none 0 0) (.int .i64 0) (.int .i64 0) (.slice none 0 0) (.int .i64 0) (.int .i64 1)) (nbel_alloc _ (.cells #[.int .i64 x, .int .i64 y] 35)))
        have zb := Lib.hid ((lbel11 hB.out (Nat.le_refl _) (.int .i64 0) (.int .i64 0) (.bool false) (.int .i64 0) (.int .i64 0) (.slice none 0 0) (.int .i64 0) (.int .i64 0) (.slice none 0 0) (.int .i64 0) (.int .i64 1)).trans ((nbel_alloc _ (.cells #[.int .i64 x, .int .i64 y] 35)).mono (by simpa using hB.out.size)))
        go_wp2_with fail
        refine bodyPost_ret (v := loV Ln.S.zero Ln.M.new none 0 none 0 1) ?_ rfl ⟨by rw [HE.out.1, HE.out.2.1, HE.out.2.2]; exact LoEnd.zero 1 _ _, zb.out⟩
        obtain ⟨⟨t0, t1, t2, t3, t4, t5, t6, t7, t8, t9, t10⟩, _⟩ := rowN11 zr.out
        simp only [results, Tryz.results6]
        simp [go_sem, t0, t1, t2, t3, t4, t5, t6, t7, t8, t9, t10, loV, Ln.S.zero, Ln.M.new]
      go_wp2_with fail
      rw [← HV1.out]
      clear x0 x1 HV1
      refine (sval19_any y _).mono ?_
      rintro e w' ⟨rfl, rfl⟩
      obtain ⟨⟨x0, x1⟩, _⟩ := rowN2 X1.out
      by_cases q3 : -1000000 ≤ y ∧ y ≤ 1000000
      case neg =>
        rw [decide_eq_false q3]
        have HE := Lib.hid (HEN.out (fun h => by rcases h with h | h <;> omega))
        obtain ⟨⟨y0, y1, y2, y3, y4, y5, y6, y7, y8, y9, y10⟩, g0, g1, g2, g3, g4, g5, g6, g7, g8, g9, g10⟩ := rowN11 Y1.out
        have hl0 := Y1.out.lt
        have zr := Lib.hid (lput11 Y1.out rfl (.int .i64 0) (.int .i64 0) (.bool false) (.int .i64 0) (.int .i64 0) (.slice none 0 0) (.int .i64 0) (.int .i64 0) (.slice none 0 0) (.int .i64 0) (.int .i64 1))
        have zb := Lib.hid (lbel11 B1.out (Nat.le_refl _) (.int .i64 0) (.int .i64 0) (.bool false) (.int .i64 0) (.int .i64 0) (.slice none 0 0) (.int .i64 0) (.int .i64 0) (.slice none 0 0) (.int .i64 0) (.int .i64 1))
        go_wp2_with fail
        refine bodyPost_ret (v := loV Ln.S.zero Ln.M.new none 0 none 0 1) ?_ rfl ⟨by rw [HE.out.1, HE.out.2.1, HE.out.2.2]; exact LoEnd.zero 1 _ _, zb.out⟩
        obtain ⟨⟨t0, t1, t2, t3, t4, t5, t6, t7, t8, t9, t10⟩, _⟩ := rowN11 zr.out
        clear y0 y1 y2 y3 y4 y5 y6 y7 y8 y9 y10 g0 g1 g2 g3 g4 g5 g6 g7 g8 g9 g10
        simp only [results, Tryz.results6]
        simp [go_sem, t0, t1, t2, t3, t4, t5, t6, t7, t8, t9, t10, loV, Ln.S.zero, Ln.M.new]
      rw [decide_eq_true q3]
      by_cases q4 : x = 2
      case neg =>
        have d4 : (x == 2) = false := by simpa using q4
        have HOK : Hid (Ln.EvOk x y) := Or.inl ⟨by omega, q3⟩
        clear q3 q4
        go_wp2_with fail
        go_roundw
        case rel => exact ⟨i + 1, by omega, by go_num, hok.out.step (by rw [← HX.out, ← HYV.out]; exact HOK.out), B1, Y1⟩
        case measure => simp [intOf]; omega
      have d4 : (x == 2) = true := by simpa using q4
      have HQ4 := Lib.hid q4
      have HQ3 := Lib.hid q3
      clear q3 q4
      by_cases q5 : y < 0
      · have HE := Lib.hid (HEN.out (fun h => by have := HQ4.out; rcases h with h | h <;> omega))
        obtain ⟨⟨y0, y1, y2, y3, y4, y5, y6, y7, y8, y9, y10⟩, g0, g1, g2, g3, g4, g5, g6, g7, g8, g9, g10⟩ := rowN11 Y1.out
        have hl0 := Y1.out.lt
        have zr := Lib.hid (lput11 Y1.out rfl (.int .i64 0) (.int .i64 0) (.bool false) (.int .i64 0) (.int .i64 0) (.slice none 0 0) (.int .i64 0) (.int .i64 0) (.slice none 0 0) (.int .i64 0) (.int .i64 1))
        have zb := Lib.hid (lbel11 B1.out (Nat.le_refl _) (.int .i64 0) (.int .i64 0) (.bool false) (.int .i64 0) (.int .i64 0) (.slice none 0 0) (.int .i64 0) (.int .i64 0) (.slice none 0 0) (.int .i64 0) (.int .i64 1))
        go_wp2_with fail
        refine bodyPost_ret (v := loV Ln.S.zero Ln.M.new none 0 none 0 1) ?_ rfl ⟨by rw [HE.out.1, HE.out.2.1, HE.out.2.2]; exact LoEnd.zero 1 _ _, zb.out⟩
        obtain ⟨⟨t0, t1, t2, t3, t4, t5, t6, t7, t8, t9, t10⟩, _⟩ := rowN11 zr.out
        clear y0 y1 y2 y3 y4 y5 y6 y7 y8 y9 y10 g0 g1 g2 g3 g4 g5 g6 g7 g8 g9 g10
        simp only [results, Tryz.results6]
        simp [go_sem, t0, t1, t2, t3, t4, t5, t6, t7, t8, t9, t10, loV, Ln.S.zero, Ln.M.new]
      by_cases q6 : 2 < y
      · have HE := Lib.hid (HEN.out (fun h => by have := HQ4.out; rcases h with h | h <;> omega))
        obtain ⟨⟨y0, y1, y2, y3, y4, y5, y6, y7, y8, y9, y10⟩, g0, g1, g2, g3, g4, g5, g6, g7, g8, g9, g10⟩ := rowN11 Y1.out
        have hl0 := Y1.out.lt
        have zr := Lib.hid (lput11 Y1.out rfl (.int .i64 0) (.int .i64 0) (.bool false) (.int .i64 0) (.int .i64 0) (.slice none 0 0) (.int .i64 0) (.int .i64 0) (.slice none 0 0) (.int .i64 0) (.int .i64 1))
        have zb := Lib.hid (lbel11 B1.out (Nat.le_refl _) (.int .i64 0) (.int .i64 0) (.bool false) (.int .i64 0) (.int .i64 0) (.slice none 0 0) (.int .i64 0) (.int .i64 0) (.slice none 0 0) (.int .i64 0) (.int .i64 1))
        go_wp2_with fail
        refine bodyPost_ret (v := loV Ln.S.zero Ln.M.new none 0 none 0 1) ?_ rfl ⟨by rw [HE.out.1, HE.out.2.1, HE.out.2.2]; exact LoEnd.zero 1 _ _, zb.out⟩
        obtain ⟨⟨t0, t1, t2, t3, t4, t5, t6, t7, t8, t9, t10⟩, _⟩ := rowN11 zr.out
        clear y0 y1 y2 y3 y4 y5 y6 y7 y8 y9 y10 g0 g1 g2 g3 g4 g5 g6 g7 g8 g9 g10
        simp only [results, Tryz.results6]
        simp [go_sem, t0, t1, t2, t3, t4, t5, t6, t7, t8, t9, t10, loV, Ln.S.zero, Ln.M.new]
      have HOK : Hid (Ln.EvOk x y) := Or.inr ⟨HQ4.out, by omega, by omega⟩
      go_wp2_with fail
      go_roundw
      case rel => exact ⟨i + 1, by omega, by go_num, hok.out.step (by rw [← HX.out, ← HYV.out]; exact HOK.out), B1, Y1⟩
      case measure => simp [intOf]; omega
    · obtain rfl : n = i := by omega
      have HOKS := Lib.hid hok.out
      obtain ⟨V, hV⟩ : ∃ V, V = (wr.alloc (.cells #[.int .i64 u, .int .i64 b, .bool false, .int .i64 0, .int .i64 1, .slice none 0 0, .int .i64 0] 28)).alloc (.cells #[.int .i64 0, .slice none 0 0, .int .i64 0] 30) := ⟨_, rfl⟩
      have hlw : w.heap.size < wr.heap.size := hY.out.lt
      have HS0 : Hid (SpS w.heap.size wr.heap.size (wr.heap.size + 1) (Ln.S.new u b) Ln.M.new none 0 none 0 w V) := by
        show SpS _ _ _ _ _ _ _ _ _ _ _
        rw [hV]
        have b1 : Below w.heap.size w (wr.alloc (.cells #[.int .i64 u, .int .i64 b, .bool false, .int .i64 0, .int .i64 1, .slice none 0 0, .int .i64 0] 28)) := hB.out.trans ((nbel_alloc _ _).mono hB.out.size)
        exact ⟨nrow_below (nrow_below hY.out (nbel_alloc _ _)) (nbel_alloc _ _), nrow_below (rowN_alloc wr [.int .i64 u, .int .i64 b, .bool false, .int .i64 0, .int .i64 1, .slice none 0 0, .int .i64 0] _) (nbel_alloc _ _), rowN_alloc' (by simp) [.int .i64 0, .slice none 0 0, .int .i64 0] _, Or.inl rfl, Or.inl rfl, fun _ _ _ _ h => absurd rfl h, ⟨Nat.le_refl _, hlw, by omega⟩, b1.trans ((nbel_alloc _ _).mono b1.size)⟩
      have HV := Lib.hid hV
      obtain ⟨sb, hsb⟩ : ∃ sb, sb = wr.heap.size := ⟨_, rfl⟩
      have HSB := Lib.hid hsb
      clear hV hok hB hY hlw HB HY
      go_wp2_with fail
      rw [← HV.out]
      rw [← hsb] at HS0 ⊢
      clear HV hsb HSB
      go_loopw [11, 12] (fun iv _ wr => ∃ (i : Nat) (a : Option Addr) (k : Nat) (b' : Option Addr) (l : Nat), i ≤ n ∧ iv = .int .i64 i ∧ Hid (SpS w.heap.size sb (sb + 1) (Ln.run u b f i).1 (Ln.run u b f i).2 a k b' l w wr)) (fun iv _ _ => n - (intOf iv).toNat)
      case atStart => exact ⟨0, none, 0, none, 0, Nat.zero_le _, rfl, HS0⟩
      case round =>
        clear HS0
        obtain ⟨i, a, k, b', l, hin, rfl, hS⟩ := hrel
        obtain ⟨S, M, hSM⟩ : ∃ S M, Ln.run u b f i = (S, M) := ⟨_, _, rfl⟩
        have HL := Ln.run_len u b f i
        rw [hSM] at hS HL
        have HS : Hid (SpS w.heap.size sb (sb + 1) S M a k b' l w wr) := hS
        have hl1 : Hid (S.wait.length ≤ 1048576) := HL.1
        have hl2 : Hid (M.notes.length ≤ 1048576) := HL.2
        have HSM := Lib.hid hSM
        have hnum := HS.out.num
        clear hS HL hSM
        by_cases hlt : i < n
        · have hltz : (i : Int) < (n : Int) := by omega
          have HR : Hid (Ln.run u b f (i + 1) = Ln.meet u (S, M) (f (i * 2)) (f (i * 2 + 1))) := Ln.run_at HSM.out
          have HOK : Hid (Ln.EvOk (f (i * 2)) (f (i * 2 + 1))) := HOKS.out i hlt
          obtain ⟨g, o, hea, c0, c1⟩ := (H.out.below HS.out.bel).at2 hlt
          obtain ⟨x, hx⟩ : ∃ x, x = f (i * 2) := ⟨_, rfl⟩
          obtain ⟨y, hy⟩ : ∃ y, y = f (i * 2 + 1) := ⟨_, rfl⟩
          have HX := Lib.hid hx
          have HYV := Lib.hid hy
          rw [← hx] at c0
          rw [← hy] at c1
          clear hx hy
          have HEA := Lib.hid hea
          subst hea
          obtain ⟨V1, hV1⟩ : ∃ V1, V1 = wr.alloc (.cells #[.int .i64 x, .int .i64 y] 35) := ⟨_, rfl⟩
          have X1 : Hid (V1.rowIs wr.heap.size 35 2 (rowN [.int .i64 x, .int .i64 y])) := by show V1.rowIs _ _ _ _; rw [hV1]; exact rowN_alloc wr [.int .i64 x, .int .i64 y] _
          have H1 : Hid (SpS w.heap.size sb (sb + 1) S M a k b' l w V1) := by show SpS _ _ _ _ _ _ _ _ _ _ _; rw [hV1]; exact HS.out.below (nbel_alloc _ _)
          rw [← HX.out, ← HYV.out] at HR HOK
          have HV1 := Lib.hid hV1
          obtain ⟨gx, hgx⟩ : ∃ gx, gx = wr.heap.size := ⟨_, rfl⟩
          have hgl : sb + 1 < gx := by rw [hgx]; exact HS.out.rm.lt
          rw [← hgx] at X1
          have HGX := Lib.hid hgx
          obtain ⟨⟨x0, x1⟩, _⟩ := rowN2 X1.out
          rw [hV1, hgx] at x0 x1
          clear hV1 hgx HS
          by_cases e1 : x = 1
          case pos =>
            have d1 : (x == 1) = true := by simpa using e1
            have HM : Hid (Ln.run u b f (i + 1) = (S.note y, M)) := by show _ = _; rw [HR.out]; exact Ln.meet_value u S M e1
            clear e1
            obtain ⟨⟨s0, s1, s2, s3, s4, s5, s6⟩, _⟩ := rowN7 H1.out.rs
            rw [HV1.out] at s0 s1 s2 s3 s4 s5 s6
            go_wp2_with fail
            rw [← HV1.out]
            clear x0 x1 s0 s1 s2 s3 s4 s5 s6 c0 c1
            refine (specNote_any S a k y _ H1.out.ts.in_ hl1.out).mono ?_
            rintro e V2 ⟨⟨a2, k2, rfl, hq⟩, hb⟩
            obtain ⟨X, hX⟩ : ∃ X, X = S.note y := ⟨_, rfl⟩
            rw [← hX] at hq HM ⊢
            have H2 := Lib.hid (H1.out.below hb)
            have H3 := Lib.hid (H1.out.setS (k' := k2) hb hq)
            clear hX hb hq H1
            obtain ⟨⟨s0, s1, s2, s3, s4, s5, s6⟩, z0, z1, z2, z3, z4, z5, z6⟩ := rowN7 H2.out.rs
            have hl := H2.out.rs.lt
            go_wp2_with fail
            clear s0 s1 s2 s3 s4 s5 s6 z0 z1 z2 z3 z4 z5 z6 hl H2
            go_roundw
            case rel => exact ⟨i + 1, a2, k2, b', l, by omega, by go_num, by show SpS _ _ _ _ _ _ _ _ _ _ _; rw [HM.out]; exact H3.out⟩
            case measure => simp [intOf]; omega
          have d1 : (x == 1) = false := by simpa using e1
          by_cases e2 : y = 2
          case pos =>
            have d2 : (y == 2) = true := by simpa using e2
            have HM : Hid (Ln.run u b f (i + 1) = (S, M)) := by show _ = _; rw [HR.out]; exact Ln.meet_lost u S M e1 e2
            clear e1 e2
            go_wp2_with fail
            rw [← HV1.out]
            go_roundw
            case rel => exact ⟨i + 1, a, k, b', l, by omega, by go_num, by show SpS _ _ _ _ _ _ _ _ _ _ _; rw [HM.out]; exact H1.out⟩
            case measure => simp [intOf]; omega
          have d2 : (y == 2) = false := by simpa using e2
          go_wp2_with fail
          rw [← HV1.out, ← HGX.out]
          clear HV1 x0 x1 c0 c1
          refine region_L (fun Y => SpS w.heap.size sb (sb + 1) S M a k b' l w Y) 5 (by kernel_rfl) (H1.out.below (Below.refl _ _).drew) (fun hHeld => ?_)
          have X2 := Lib.hid (nrow_below X1.out (Below.refl _ _).drew)
          clear H1 X1
          generalize V1.drew = V2 at hHeld X2 ⊢
          refine takeL_do (i := 0) (v := (maV M b' l)) rfl (by kernel_rfl) (by kernel_rfl) (by kernel_rfl) (by kernel_rfl) (fun _ _ _ h => h) (by rfl) ?_ (by assumption) ?_
          · intro w hSw
            obtain ⟨⟨x0, x1, x2⟩, _⟩ := rowN3 hSw.rm
            go_simp
          simp only [Act.put, List.setIfInBounds_toArray, List.set_cons_zero, List.set_cons_succ]
          refine takeL_do (i := 1) (v := (.int .i64 u)) rfl (by kernel_rfl) (by kernel_rfl) (by kernel_rfl) (by kernel_rfl) (fun _ _ _ h => h) (by rfl) ?_ (by assumption) ?_
          · intro w hSw
            go_simp
          simp only [Act.put, List.setIfInBounds_toArray, List.set_cons_zero, List.set_cons_succ]
          refine takeL_do (i := 2) (v := (stV S a k)) rfl (by kernel_rfl) (by kernel_rfl) (by kernel_rfl) (by kernel_rfl) (fun _ _ _ h => h) (by rfl) ?_ (by assumption) ?_
          · intro w hSw
            obtain ⟨⟨x0, x1, x2, x3, x4, x5, x6⟩, _⟩ := rowN7 hSw.rs
            go_simp
          simp only [Act.put, List.setIfInBounds_toArray, List.set_cons_zero, List.set_cons_succ]
          refine takeL_call (i := 3) rfl (by kernel_rfl) (fun K2 hK => ?_)
          go_simp
          refine (specSend_any S a k _ hHeld.ts.in_ hl1.out).mono ?_
          rintro e V3 ⟨rfl, hb⟩
          have X3 := Lib.hid (nrow_below X2.out hb)
          have H3 := Lib.hid (hHeld.below hb)
          go_wp2_with fail
          refine hK.out _ _ H3.out (fun hHeld2 => ?_)
          clear hK hHeld hb X2 H3
          have hHeld := hHeld2
          clear hHeld2
          refine takeL_call (i := 4) rfl (by kernel_rfl) (fun K2 hK => ?_)
          go_simp
          refine (specTake_any M b' l u ⟨S.send.toArray⟩ _ hHeld.tm.in_ hl2.out (by have := Ln.send_len S; show S.send.length ≤ _; omega)).mono ?_
          rintro e V4 ⟨⟨b3, l3, rfl, hq3⟩, hb3⟩
          have e4 : (⟨S.send.toArray⟩ : ByteArray).data.toList = S.send := rfl
          rw [e4] at hq3 ⊢
          obtain ⟨X, hX⟩ : ∃ X, X = M.take u S.send := ⟨_, rfl⟩
          rw [← hX] at hq3 ⊢
          have HXX := Lib.hid hX
          have X4 := Lib.hid (nrow_below X3.out hb3)
          have H4 := Lib.hid (hHeld.below hb3)
          have H5 := Lib.hid (hHeld.setM (l' := l3) hb3 hq3)
          go_wp2_with fail
          refine hK.out _ _ H4.out (fun hHeld2 => ?_)
          clear hK hHeld hb3 hq3 hX X3 e4 hHeld2
          obtain ⟨⟨m0, m1, m2⟩, p0, p1, p2⟩ := rowN3 H4.out.rm
          have hl3 := H4.out.rm.lt
          have X5 : Hid ((((V4.setCell ⟨sb + 1, 0, none⟩ (.int .i64 X.seq)).setCell ⟨sb + 1, 1, none⟩ (.slice b3 X.notes.length l3)).setCell ⟨sb + 1, 2, none⟩ (.int .i64 X.gaps)).rowIs gx 35 2 (rowN [.int .i64 x, .int .i64 y])) := X4.out.of_block (lblk3 (by omega) (.int .i64 X.seq) (.slice b3 X.notes.length l3) (.int .i64 X.gaps))
          refine takeL_last rfl (by kernel_rfl) (by kernel_rfl) (fun K2 hK => ?_)
          go_simp
          refine hK.out _ _ ?_
          clear hK H4 X4 m0 m1 m2 p0 p1 p2 hl3
          simp only [← HXX.out]
          generalize (((V4.setCell ⟨sb + 1, 0, none⟩ (.int .i64 X.seq)).setCell ⟨sb + 1, 1, none⟩ (.slice b3 X.notes.length l3)).setCell ⟨sb + 1, 2, none⟩ (.int .i64 X.gaps)) = V5 at H5 X5 ⊢
          obtain ⟨⟨x0, x1⟩, _⟩ := rowN2 X5.out
          by_cases e0 : y = 0
          case neg =>
            have d0 : (y == 0) = false := by simpa using e0
            have HM : Hid (Ln.run u b f (i + 1) = (S, X)) := by show _ = _; rw [HR.out, HXX.out]; exact Ln.meet_unheard u S M e1 e2 e0
            clear e0 e1 e2
            go_wp2_with fail
            go_roundw
            case rel => exact ⟨i + 1, a, k, b3, l3, by omega, by go_num, by show SpS _ _ _ _ _ _ _ _ _ _ _; rw [HM.out]; exact H5.out⟩
            case measure => simp [intOf]; omega
          have d0 : (y == 0) = true := by simpa using e0
          have HM : Hid (Ln.run u b f (i + 1) = (S.heard X.seq, X)) := by show _ = _; rw [HR.out, HXX.out]; exact Ln.meet_good u S M e1 e0
          clear e0 e1 e2
          obtain ⟨⟨s0, s1, s2, s3, s4, s5, s6⟩, _⟩ := rowN7 H5.out.rs
          obtain ⟨⟨m0, m1, m2⟩, _⟩ := rowN3 H5.out.rm
          go_wp2_with fail
          clear x0 x1 s0 s1 s2 s3 s4 s5 s6 m0 m1 m2
          refine (specHeard_any S a k X.seq _ H5.out.ts.in_ hl1.out).mono ?_
          rintro e V6 ⟨⟨a6, k6, rfl, hq⟩, hb⟩
          obtain ⟨Y, hY⟩ : ∃ Y, Y = S.heard X.seq := ⟨_, rfl⟩
          rw [← hY] at hq HM ⊢
          have H6 := Lib.hid (H5.out.below hb)
          have H7 := Lib.hid (H5.out.setS (k' := k6) hb hq)
          clear hY hb hq H5 X5
          obtain ⟨⟨s0, s1, s2, s3, s4, s5, s6⟩, z0, z1, z2, z3, z4, z5, z6⟩ := rowN7 H6.out.rs
          have hl := H6.out.rs.lt
          go_wp2_with fail
          clear s0 s1 s2 s3 s4 s5 s6 z0 z1 z2 z3 z4 z5 z6 hl H6
          go_roundw
          case rel => exact ⟨i + 1, a6, k6, b3, l3, by omega, by go_num, by show SpS _ _ _ _ _ _ _ _ _ _ _; rw [HM.out]; exact H7.out⟩
          case measure => simp [intOf]; omega
        · obtain rfl : i = n := by omega
          have HE : Hid (Ln.lcode u b f i = 0 ∧ Ln.lst u b f i = S ∧ Ln.lma u b f i = M) := by
            have := Ln.lout_yes hn HF.out HOKS.out
            rw [HSM.out] at this
            exact this
          obtain ⟨⟨s0, s1, s2, s3, s4, s5, s6⟩, _⟩ := rowN7 HS.out.rs
          obtain ⟨⟨m0, m1, m2⟩, _⟩ := rowN3 HS.out.rm
          obtain ⟨⟨y0, y1, y2, y3, y4, y5, y6, y7, y8, y9, y10⟩, g0, g1, g2, g3, g4, g5, g6, g7, g8, g9, g10⟩ := rowN11 HS.out.ro
          have hl0 := HS.out.ro.lt
          have zr := Lib.hid (lput11 HS.out.ro rfl (.int .i64 S.unit) (.int .i64 S.band) (.bool S.seen) (.int .i64 S.last) (.int .i64 S.next) (.slice a S.wait.length k) (.int .i64 S.drops) (.int .i64 M.seq) (.slice b' M.notes.length l) (.int .i64 M.gaps) (.int .i64 0))
          have zb := Lib.hid (lbel11 HS.out.bel (Nat.le_refl _) (.int .i64 S.unit) (.int .i64 S.band) (.bool S.seen) (.int .i64 S.last) (.int .i64 S.next) (.slice a S.wait.length k) (.int .i64 S.drops) (.int .i64 M.seq) (.slice b' M.notes.length l) (.int .i64 M.gaps) (.int .i64 0))
          have z1 : Hid (NqOwn 37 (sb + 1 + 1) S.wait.length a (Ln.fl S.wait) (((((((((((wr.setCell ⟨w.heap.size, 0, none⟩ (.int .i64 S.unit)).setCell ⟨w.heap.size, 1, none⟩ (.int .i64 S.band)).setCell ⟨w.heap.size, 2, none⟩ (.bool S.seen)).setCell ⟨w.heap.size, 3, none⟩ (.int .i64 S.last)).setCell ⟨w.heap.size, 4, none⟩ (.int .i64 S.next)).setCell ⟨w.heap.size, 5, none⟩ (.slice a S.wait.length k)).setCell ⟨w.heap.size, 6, none⟩ (.int .i64 S.drops)).setCell ⟨w.heap.size, 7, none⟩ (.int .i64 M.seq)).setCell ⟨w.heap.size, 8, none⟩ (.slice b' M.notes.length l)).setCell ⟨w.heap.size, 9, none⟩ (.int .i64 M.gaps)).setCell ⟨w.heap.size, 10, none⟩ (.int .i64 0))) := HS.out.ts.same (fun zz hz _ => lblk11 (by omega) (.int .i64 S.unit) (.int .i64 S.band) (.bool S.seen) (.int .i64 S.last) (.int .i64 S.next) (.slice a S.wait.length k) (.int .i64 S.drops) (.int .i64 M.seq) (.slice b' M.notes.length l) (.int .i64 M.gaps) (.int .i64 0))
          have z2 : Hid (NqOwn 37 (sb + 1 + 1) M.notes.length b' (Ln.fl M.notes) (((((((((((wr.setCell ⟨w.heap.size, 0, none⟩ (.int .i64 S.unit)).setCell ⟨w.heap.size, 1, none⟩ (.int .i64 S.band)).setCell ⟨w.heap.size, 2, none⟩ (.bool S.seen)).setCell ⟨w.heap.size, 3, none⟩ (.int .i64 S.last)).setCell ⟨w.heap.size, 4, none⟩ (.int .i64 S.next)).setCell ⟨w.heap.size, 5, none⟩ (.slice a S.wait.length k)).setCell ⟨w.heap.size, 6, none⟩ (.int .i64 S.drops)).setCell ⟨w.heap.size, 7, none⟩ (.int .i64 M.seq)).setCell ⟨w.heap.size, 8, none⟩ (.slice b' M.notes.length l)).setCell ⟨w.heap.size, 9, none⟩ (.int .i64 M.gaps)).setCell ⟨w.heap.size, 10, none⟩ (.int .i64 0))) := HS.out.tm.same (fun zz hz _ => lblk11 (by omega) (.int .i64 S.unit) (.int .i64 S.band) (.bool S.seen) (.int .i64 S.last) (.int .i64 S.next) (.slice a S.wait.length k) (.int .i64 S.drops) (.int .i64 M.seq) (.slice b' M.notes.length l) (.int .i64 M.gaps) (.int .i64 0))
          have DJ := Lib.hid HS.out.dj
          clear HS
          go_wp2_with fail
          refine bodyPost_ret (v := loV S M a k b' l 0) ?_ rfl ⟨by rw [HE.out.1, HE.out.2.1, HE.out.2.2]; exact ⟨a, k, b', l, rfl, z1.out.low (by omega), z2.out.low (by omega), DJ.out⟩, zb.out⟩
          clear y0 y1 y2 y3 y4 y5 y6 y7 y8 y9 y10 g0 g1 g2 g3 g4 g5 g6 g7 g8 g9 g10 s0 s1 s2 s3 s4 s5 s6 m0 m1 m2 z1 z2 zb DJ
          obtain ⟨⟨t0, t1, t2, t3, t4, t5, t6, t7, t8, t9, t10⟩, _⟩ := rowN11 zr.out
          simp only [results, Tryz.results6]
          simp [go_sem, t0, t1, t2, t3, t4, t5, t6, t7, t8, t9, t10, loV]
end Go.Proofs.YtdlojhncbgfjbaaGreatDoor
namespace Go.Proofs.YtdlojhncbgfjbaaGreatDoor
open Go.RowKit Go.Deep

/-- A wire in memory. -/
def wiL (u : Int) (p : Nat) (m : Ln.M) (a : Option Addr) (k : Nat) : List Value := [.int .i64 u, .pointer (some ⟨p, 0, none⟩), .int .i64 m.seq, .slice a m.notes.length k, .int .i64 m.gaps]
structure WiS (u : Int) (p q : Nat) (s : Ln.S) (m : Ln.M) (a : Option Addr) (k : Nat) (b : Option Addr) (l : Nat) (n : Int) (w0 W : World) : Prop where
  rp : W.rowIs p 92 10 (rowN (poL 0 s a k n))
  rq : W.rowIs q 58 5 (rowN (wiL u p m b l))
  ts : NqOwn 37 (q + 1) s.wait.length a (Ln.fl s.wait) W
  tm : NqOwn 37 (q + 1) m.notes.length b (Ln.fl m.notes) W
  dj : ∀ g o g' o', s.wait.length ≠ 0 → m.notes.length ≠ 0 → a = some ⟨g, o, none⟩ → b = some ⟨g', o', none⟩ → g ≠ g'
  num : w0.heap.size ≤ p ∧ p < q
  bel : Below w0.heap.size w0 W
  nb : Nb n
section
variable {u : Int} {p q : Nat} {s : Ln.S} {m : Ln.M} {a : Option Addr} {k : Nat} {b : Option Addr} {l : Nat} {n : Int} {w0 W W' : World}
theorem WiS.below (h : WiS u p q s m a k b l n w0 W) (hb : Below W.heap.size W W') : WiS u p q s m a k b l n w0 W' :=
  ⟨nrow_below h.rp hb, nrow_below h.rq hb, h.ts.below hb, h.tm.below hb, h.dj, h.num, h.bel.trans (hb.mono h.bel.size), h.nb⟩
theorem WiS.post (h : WiS u p q s m a k b l n w0 W) {s' : Ln.S} (he : PoEnd s' n p W W') : ∃ a' k', WiS u p q s' m a' k' b l n w0 W' := by
  obtain ⟨a', k', h1, h2, h3⟩ := he
  obtain ⟨o1, o2⟩ := h.num
  have hq := h.rq.lt
  refine ⟨a', k', h1, h3.row (by omega) h.rq, h2.low hq, h3.own (by omega) h.tm, fun g o g' o' e1 e2 e3 e4 => ?_, h.num, h3.bel h.bel o1 h.bel.size, h.nb⟩
  have hlt := h.tm.lt g' o' e2 e4
  rcases h2 with e | ⟨g2, o2, e5, e6, _⟩
  · exact absurd e e1
  · rw [e5] at e3
    cases e3
    omega
theorem WiS.ans (h : WiS u p q s m a k b l n w0 W) {n' : Int} (hnb : Nb n') (hr : W'.rowIs p 92 10 (rowN (poL 0 s a k n'))) (h3 : LnOnly p W W') : WiS u p q s m a k b l n' w0 W' := by
  obtain ⟨o1, o2⟩ := h.num
  exact ⟨hr, h3.row (by omega) h.rq, h3.own (by omega) h.ts, h3.own (by omega) h.tm, h.dj, h.num, h3.bel h.bel o1 h.bel.size, hnb⟩
theorem WiS.master (h : WiS u p q s m a k b l n w0 W) (hb : Below W.heap.size W W') {m' : Ln.M} {b' : Option Addr} {l' : Nat} (hq : NqOwn 37 W.heap.size m'.notes.length b' (Ln.fl m'.notes) W') :
    WiS u p q s m' a k b' l' n w0 (((W'.setCell ⟨q, 2, none⟩ (.int .i64 m'.seq)).setCell ⟨q, 3, none⟩ (.slice b' m'.notes.length l')).setCell ⟨q, 4, none⟩ (.int .i64 m'.gaps)) := by
  obtain ⟨o1, o2⟩ := h.num
  have hql := h.rq.lt
  have h' := h.below hb
  have hO := ((LnOnly.set (p := q) W' 2 (.int .i64 m'.seq)).trans (LnOnly.set _ 3 (.slice b' m'.notes.length l'))).trans (LnOnly.set _ 4 (.int .i64 m'.gaps))
  refine ⟨hO.row (by omega) h'.rp, rowN_put (rowN_put (rowN_put h'.rq 2 _ (by simp [wiL])) 3 _ (by simp [wiL])) 4 _ (by simp [wiL]), hO.own (by omega) h'.ts, hO.own (by omega) (hq.low hql), fun g o g' o' e1 e2 e3 e4 => ?_, h.num, hO.bel h'.bel (by omega) h'.bel.size, h.nb⟩
  have hlt := h.ts.lt g o e1 e3
  rcases hq with e | ⟨g2, o3, e5, e6, _⟩
  · exact absurd e e2
  · rw [e5] at e4
    cases e4
    omega
end
def WiEnd (u : Int) (p q : Nat) (s : Ln.S × Ln.M) (w0 W : World) : Prop := ∃ a k b l n, WiS u p q s.1 s.2 a k b l n w0 W
set_option maxRecDepth 100000 in
set_option maxHeartbeats 8000000 in
theorem wiPoll_any (u : Int) (p q : Nat) (s : Ln.S) (m : Ln.M) (a : Option Addr) (k : Nat) (b : Option Addr) (l : Nat) (n c : Int) (w0 W : World) (h : WiS u p q s m a k b l n w0 W) (hn : s.wait.length ≤ 1048576) (hm : m.notes.length ≤ 1048576) (hg : LnG w0) :
    Calls Tryz.prog 40 #[.pointer (some ⟨q, 0, none⟩), .int .i64 c] W fun e W' => e = .returned (.tuple #[]) ∧ WiEnd u p q (Ln.meet u (s, m) 2 c) w0 W' := by
  have H := Lib.hid h
  have HG := Lib.hid hg
  clear h hg
  go_enter Tryz.func40, Tryz.ntmps40
  by_cases e2 : c = 2
  · subst e2
    go_wp2_with fail
    refine bodyPost_ret (v := .tuple #[]) (by simp [results, Tryz.results40, go_sem]) rfl ⟨rfl, ?_⟩
    rw [Ln.meet_lost u s m (by omega) rfl]
    exact ⟨a, k, b, l, n, H.out⟩
  have d2 : (c == 2) = false := by simpa using e2
  go_wp2_with fail
  refine region_L (fun Y => ∃ n, WiS u p q s m a k b l n w0 Y) 17 (by kernel_rfl) ⟨n, H.out.below (Below.refl _ _).drew⟩ (fun hHeld => ?_)
  clear H
  generalize W.drew = V at hHeld ⊢
  refine takeL_do (i := 0) (v := (.pointer (some ⟨q, 0, none⟩))) rfl (by kernel_rfl) (by kernel_rfl) (by kernel_rfl) (by kernel_rfl) (fun _ _ _ h => h) (by rfl) ?_ (by assumption) ?_
  · intro w hSw
    go_simp
  simp only [Act.put, List.setIfInBounds_toArray, List.set_cons_zero, List.set_cons_succ]
  refine takeL_do (i := 1) (v := (.pointer (some ⟨q, 0, none⟩))) rfl (by kernel_rfl) (by kernel_rfl) (by kernel_rfl) (by kernel_rfl) (fun _ _ _ h => h) (by rfl) ?_ (by assumption) ?_
  · intro w hSw
    go_simp
  simp only [Act.put, List.setIfInBounds_toArray, List.set_cons_zero, List.set_cons_succ]
  refine takeL_do (i := 2) (v := (.pointer (some ⟨q, 0, none⟩))) rfl (by kernel_rfl) (by kernel_rfl) (by kernel_rfl) (by kernel_rfl) (fun _ _ _ h => h) (by rfl) ?_ (by assumption) ?_
  · intro w hSw
    go_simp
  simp only [Act.put, List.setIfInBounds_toArray, List.set_cons_zero, List.set_cons_succ]
  refine takeL_do (i := 3) (v := (.pointer (some ⟨q, 2, none⟩))) rfl (by kernel_rfl) (by kernel_rfl) (by kernel_rfl) (by kernel_rfl) (fun _ _ _ h => h) (by rfl) ?_ (by assumption) ?_
  · intro w hSw
    go_simp
  simp only [Act.put, List.setIfInBounds_toArray, List.set_cons_zero, List.set_cons_succ]
  refine takeL_do (i := 4) (v := (maV m b l)) rfl (by kernel_rfl) (by kernel_rfl) (by kernel_rfl) (by kernel_rfl) (fun _ _ _ h => h) (by rfl) ?_ (by assumption) ?_
  · intro w hSw
    obtain ⟨nn, hSx⟩ := hSw
    obtain ⟨⟨x0, x1, x2, x3, x4⟩, _⟩ := rowN5l hSx.rq
    go_simp
  simp only [Act.put, List.setIfInBounds_toArray, List.set_cons_zero, List.set_cons_succ]
  refine takeL_do (i := 5) (v := (.pointer (some ⟨q, 0, none⟩))) rfl (by kernel_rfl) (by kernel_rfl) (by kernel_rfl) (by kernel_rfl) (fun _ _ _ h => h) (by rfl) ?_ (by assumption) ?_
  · intro w hSw
    go_simp
  simp only [Act.put, List.setIfInBounds_toArray, List.set_cons_zero, List.set_cons_succ]
  refine takeL_do (i := 6) (v := (.pointer (some ⟨q, 0, none⟩))) rfl (by kernel_rfl) (by kernel_rfl) (by kernel_rfl) (by kernel_rfl) (fun _ _ _ h => h) (by rfl) ?_ (by assumption) ?_
  · intro w hSw
    go_simp
  simp only [Act.put, List.setIfInBounds_toArray, List.set_cons_zero, List.set_cons_succ]
  refine takeL_do (i := 7) (v := (.pointer (some ⟨q, 0, none⟩))) rfl (by kernel_rfl) (by kernel_rfl) (by kernel_rfl) (by kernel_rfl) (fun _ _ _ h => h) (by rfl) ?_ (by assumption) ?_
  · intro w hSw
    go_simp
  simp only [Act.put, List.setIfInBounds_toArray, List.set_cons_zero, List.set_cons_succ]
  refine takeL_do (i := 8) (v := (.int .i64 u)) rfl (by kernel_rfl) (by kernel_rfl) (by kernel_rfl) (by kernel_rfl) (fun _ _ _ h => h) (by rfl) ?_ (by assumption) ?_
  · intro w hSw
    obtain ⟨nn, hSx⟩ := hSw
    obtain ⟨⟨x0, x1, x2, x3, x4⟩, _⟩ := rowN5l hSx.rq
    go_simp
  simp only [Act.put, List.setIfInBounds_toArray, List.set_cons_zero, List.set_cons_succ]
  refine takeL_do (i := 9) (v := (.pointer (some ⟨q, 0, none⟩))) rfl (by kernel_rfl) (by kernel_rfl) (by kernel_rfl) (by kernel_rfl) (fun _ _ _ h => h) (by rfl) ?_ (by assumption) ?_
  · intro w hSw
    go_simp
  simp only [Act.put, List.setIfInBounds_toArray, List.set_cons_zero, List.set_cons_succ]
  refine takeL_do (i := 10) (v := (.pointer (some ⟨q, 0, none⟩))) rfl (by kernel_rfl) (by kernel_rfl) (by kernel_rfl) (by kernel_rfl) (fun _ _ _ h => h) (by rfl) ?_ (by assumption) ?_
  · intro w hSw
    go_simp
  simp only [Act.put, List.setIfInBounds_toArray, List.set_cons_zero, List.set_cons_succ]
  refine takeL_do (i := 11) (v := (.pointer (some ⟨q, 1, none⟩))) rfl (by kernel_rfl) (by kernel_rfl) (by kernel_rfl) (by kernel_rfl) (fun _ _ _ h => h) (by rfl) ?_ (by assumption) ?_
  · intro w hSw
    go_simp
  simp only [Act.put, List.setIfInBounds_toArray, List.set_cons_zero, List.set_cons_succ]
  refine takeL_do (i := 12) (v := (.pointer (some ⟨p, 0, none⟩))) rfl (by kernel_rfl) (by kernel_rfl) (by kernel_rfl) (by kernel_rfl) (fun _ _ _ h => h) (by rfl) ?_ (by assumption) ?_
  · intro w hSw
    obtain ⟨nn, hSx⟩ := hSw
    obtain ⟨⟨x0, x1, x2, x3, x4⟩, _⟩ := rowN5l hSx.rq
    go_simp
  simp only [Act.put, List.setIfInBounds_toArray, List.set_cons_zero, List.set_cons_succ]
  refine takeL_call (i := 13) rfl (by kernel_rfl) (fun K2 hK => ?_)
  obtain ⟨n1, H1⟩ := hHeld
  obtain ⟨hp1, hp2⟩ := H1.num
  go_simp
  refine (poAnswer_any s a k n1 p w0 _ H1.rp (H1.ts.low (by omega)) hn HG.out.tab H1.bel hp1).mono ?_
  rintro e V2 ⟨rfl, ⟨n2, hnb2, hr2⟩, hon⟩
  have H2 := Lib.hid (H1.ans hnb2 hr2 hon)
  go_wp2_with fail
  refine hK.out _ _ ⟨n2, H2.out⟩ (fun hHeld2 => ?_)
  clear hK hHeld2 hr2 hon H1 hnb2
  have hHeld : ∃ n, WiS u p q s m a k b l n w0 V2 := ⟨n2, H2.out⟩
  refine takeL_call (i := 14) rfl (by kernel_rfl) (fun K2 hK => ?_)
  go_simp
  refine (implTake_any m b l u ⟨s.send.toArray⟩ _ H2.out.tm.in_ hm (HG.out.below H2.out.bel)).mono ?_
  rintro e V3 ⟨⟨b3, l3, rfl, hq3⟩, hb3⟩
  have e4 : (⟨s.send.toArray⟩ : ByteArray).data.toList = s.send := rfl
  rw [e4] at hq3 ⊢
  obtain ⟨X, hX⟩ : ∃ X, X = m.take u s.send := ⟨_, rfl⟩
  rw [← hX] at hq3 ⊢
  have HX := Lib.hid hX
  have H3 := Lib.hid (H2.out.below hb3)
  have H4 := Lib.hid (H2.out.master (l' := l3) hb3 hq3)
  go_wp2_with fail
  refine hK.out _ _ ⟨n2, H3.out⟩ (fun hHeld2 => ?_)
  clear hK hHeld hb3 hq3 hX H2 e4
  have hHeld := hHeld2
  clear hHeld2
  refine takeL_call (i := 15) rfl (by kernel_rfl) (fun K2 hK => ?_)
  go_simp
  refine hK.out _ _ hHeld (fun hHeld2 => ?_)
  clear hK hHeld
  have hHeld := hHeld2
  clear hHeld2
  refine takeL_do (i := 16) (v := (.pointer (some ⟨q, 2, none⟩))) rfl (by kernel_rfl) (by kernel_rfl) (by kernel_rfl) (by kernel_rfl) (fun _ _ _ h => h) (by rfl) ?_ (by assumption) ?_
  · intro w hSw
    go_simp
  simp only [Act.put, List.setIfInBounds_toArray, List.set_cons_zero, List.set_cons_succ]
  obtain ⟨⟨x0, x1, x2, x3, x4⟩, xf0, xf1, xf2, xf3, xf4⟩ := rowN5l H3.out.rq
  have hl3 := H3.out.rq.lt
  refine takeL_last rfl (by kernel_rfl) (by kernel_rfl) (fun K2 hK => ?_)
  go_simp
  refine hK.out _ _ ?_
  clear hK hHeld H3
  clear x0 x1 x2 x3 x4 xf0 xf1 xf2 xf3 xf4 hl3
  simp only [← HX.out]
  generalize ((V3.setCell ⟨q, 2, none⟩ (.int .i64 X.seq)).setCell ⟨q, 3, none⟩ (.slice b3 X.notes.length l3)).setCell ⟨q, 4, none⟩ (.int .i64 X.gaps) = V4 at H4 ⊢
  by_cases e0 : c = 0
  case neg =>
    have d0 : (c == 0) = false := by simpa using e0
    go_wp2_with fail
    refine bodyPost_end (v := .tuple #[]) (by simp [results, Tryz.results40, go_sem]) rfl ⟨rfl, ?_⟩
    rw [Ln.meet_unheard u s m (by omega) e2 e0, ← HX.out]
    exact ⟨a, k, b3, l3, n2, H4.out⟩
  subst e0
  go_wp2_with fail
  refine wp_region_held_drew (S := fun Y => Y.rowIs q 58 5 (rowN (wiL u p X b3 l3))) (by kernel_rfl) (H4.out.below (Below.refl _ _).drew).rq (fun hHeld => ?_)
  have H5 := Lib.hid (H4.out.below (Below.refl _ _).drew)
  clear H4
  generalize V4.drew = V5 at hHeld H5 ⊢
  refine take_do (i := 0) (v := (.pointer (some ⟨q, 0, none⟩))) rfl (by kernel_rfl) (by kernel_rfl) (by kernel_rfl) (fun _ _ _ h => h) (by rfl) ?_ (by assumption) ?_
  · intro w hSw
    go_simp
  simp only [Act.put, List.setIfInBounds_toArray, List.set_cons_zero, List.set_cons_succ]
  refine take_do (i := 1) (v := (.pointer (some ⟨q, 0, none⟩))) rfl (by kernel_rfl) (by kernel_rfl) (by kernel_rfl) (fun _ _ _ h => h) (by rfl) ?_ (by assumption) ?_
  · intro w hSw
    go_simp
  simp only [Act.put, List.setIfInBounds_toArray, List.set_cons_zero, List.set_cons_succ]
  refine take_do (i := 2) (v := (.pointer (some ⟨q, 1, none⟩))) rfl (by kernel_rfl) (by kernel_rfl) (by kernel_rfl) (fun _ _ _ h => h) (by rfl) ?_ (by assumption) ?_
  · intro w hSw
    go_simp
  simp only [Act.put, List.setIfInBounds_toArray, List.set_cons_zero, List.set_cons_succ]
  refine take_do (i := 3) (v := (.pointer (some ⟨p, 0, none⟩))) rfl (by kernel_rfl) (by kernel_rfl) (by kernel_rfl) (fun _ _ _ h => h) (by rfl) ?_ (by assumption) ?_
  · intro w hSw
    obtain ⟨⟨x0, x1, x2, x3, x4⟩, _⟩ := rowN5l hSw
    go_simp
  simp only [Act.put, List.setIfInBounds_toArray, List.set_cons_zero, List.set_cons_succ]
  refine take_do (i := 4) (v := (.pointer (some ⟨q, 0, none⟩))) rfl (by kernel_rfl) (by kernel_rfl) (by kernel_rfl) (fun _ _ _ h => h) (by rfl) ?_ (by assumption) ?_
  · intro w hSw
    go_simp
  simp only [Act.put, List.setIfInBounds_toArray, List.set_cons_zero, List.set_cons_succ]
  refine take_do (i := 5) (v := (.pointer (some ⟨q, 0, none⟩))) rfl (by kernel_rfl) (by kernel_rfl) (by kernel_rfl) (fun _ _ _ h => h) (by rfl) ?_ (by assumption) ?_
  · intro w hSw
    go_simp
  simp only [Act.put, List.setIfInBounds_toArray, List.set_cons_zero, List.set_cons_succ]
  refine take_do (i := 6) (v := (.pointer (some ⟨q, 2, none⟩))) rfl (by kernel_rfl) (by kernel_rfl) (by kernel_rfl) (fun _ _ _ h => h) (by rfl) ?_ (by assumption) ?_
  · intro w hSw
    go_simp
  simp only [Act.put, List.setIfInBounds_toArray, List.set_cons_zero, List.set_cons_succ]
  refine take_do (i := 7) (v := (.pointer (some ⟨q, 2, none⟩))) rfl (by kernel_rfl) (by kernel_rfl) (by kernel_rfl) (fun _ _ _ h => h) (by rfl) ?_ (by assumption) ?_
  · intro w hSw
    go_simp
  simp only [Act.put, List.setIfInBounds_toArray, List.set_cons_zero, List.set_cons_succ]
  refine take_do (i := 8) (v := (.int .i64 X.seq)) rfl (by kernel_rfl) (by kernel_rfl) (by kernel_rfl) (fun _ _ _ h => h) (by rfl) ?_ (by assumption) ?_
  · intro w hSw
    obtain ⟨⟨x0, x1, x2, x3, x4⟩, _⟩ := rowN5l hSw
    go_simp
  simp only [Act.put, List.setIfInBounds_toArray, List.set_cons_zero, List.set_cons_succ]
  refine take_call (i := 9) rfl (by kernel_rfl) (fun K2 hK => ?_)
  go_simp
  refine (poHear_any s a k n2 X.seq p _ H5.out.rp (H5.out.ts.low (by omega)) hn).mono ?_
  rintro e V6 ⟨rfl, hE⟩
  obtain ⟨a6, k6, H6⟩ := H5.out.post hE
  have HH6 := Lib.hid H6
  clear H6 H5 hE
  go_wp2_with fail
  refine hK.out _ _ HH6.out.rq (fun hHeld2 => ?_)
  clear hK hHeld hHeld2
  refine wpAnyH_done (by kernel_rfl) ?_ _
  go_wp2_with fail
  refine bodyPost_end (v := .tuple #[]) (by simp [results, Tryz.results40, go_sem]) rfl ⟨rfl, ?_⟩
  rw [Ln.meet_good u s m (by omega) rfl, ← HX.out]
  exact ⟨a6, k6, b3, l3, n2, HH6.out⟩
end Go.Proofs.YtdlojhncbgfjbaaGreatDoor
namespace Go.Proofs.YtdlojhncbgfjbaaGreatDoor
open Go.RowKit Go.Deep

theorem evok_one {x y : Int} (h : x = 1) : lB (Ln.EvOk x y) = decide (-1000000 ≤ y ∧ y ≤ 1000000) := by
  by_cases c : -1000000 ≤ y ∧ y ≤ 1000000
  · rw [lB_tt (show Ln.EvOk x y from Or.inl ⟨h, c⟩), decide_eq_true c]
  · rw [lB_ff (show ¬ Ln.EvOk x y from fun k => by rcases k with k | k <;> omega), decide_eq_false c]
theorem evok_two {x y : Int} (h : x = 2) : lB (Ln.EvOk x y) = decide (0 ≤ y ∧ y ≤ 2) := by
  by_cases c : 0 ≤ y ∧ y ≤ 2
  · rw [lB_tt (show Ln.EvOk x y from Or.inr ⟨h, c⟩), decide_eq_true c]
  · rw [lB_ff (show ¬ Ln.EvOk x y from fun k => by rcases k with k | k <;> omega), decide_eq_false c]
set_option maxRecDepth 100000 in
set_option maxHeartbeats 8000000 in
theorem evRight_any (x y : Int) (w : World) :
    Calls Tryz.prog 38 #[.agg #[.int .i64 x, .int .i64 y]] w fun e w' => e = .returned (.bool (lB (Ln.EvOk x y))) ∧ Below w.heap.size w w' := by
  obtain ⟨W, hW⟩ : ∃ W, W = w.alloc (.cells #[.int .i64 x, .int .i64 y] 35) := ⟨_, rfl⟩
  have HB : Hid (Below w.heap.size w W) := by show Below _ _ _; rw [hW]; exact nbel_alloc _ _
  have HX : Hid (W.rowIs w.heap.size 35 2 (rowN [.int .i64 x, .int .i64 y])) := by show W.rowIs _ _ _ _; rw [hW]; exact rowN_alloc w [.int .i64 x, .int .i64 y] _
  obtain ⟨⟨x0, x1⟩, _⟩ := rowN2 HX.out
  rw [hW] at x0 x1
  have HW := Lib.hid hW
  clear hW
  go_enter Tryz.func38, Tryz.ntmps38
  by_cases e1 : x = 1
  · have d1 : (x == 1) = true := by simpa using e1
    have HE : Hid (lB (Ln.EvOk x y) = decide (-1000000 ≤ y ∧ y ≤ 1000000)) := evok_one e1
    clear e1
    go_wp2_with fail
    refine (labout_any y 1000000 (by omega) (by omega) _).mono ?_
    rintro e w' ⟨rfl, rfl⟩
    go_wp2_with fail
    go_ret
    exact ⟨by rw [HE.out]; simp, by rw [← HW.out]; exact HB.out⟩
  have d1 : (x == 1) = false := by simpa using e1
  by_cases e2 : x = 2
  · have d2 : (x == 2) = true := by simpa using e2
    have HE : Hid (lB (Ln.EvOk x y) = decide (0 ≤ y ∧ y ≤ 2)) := evok_two e2
    clear e1 e2
    go_wp2_with fail
    refine (lwithin_any y 2 _).mono ?_
    rintro e w' ⟨rfl, rfl⟩
    go_wp2_with fail
    go_ret
    exact ⟨by rw [HE.out]; simp, by rw [← HW.out]; exact HB.out⟩
  have d2 : (x == 2) = false := by simpa using e2
  have HE : Hid (lB (Ln.EvOk x y) = false) := lB_ff (fun h => by rcases h with h | h <;> omega)
  clear e1 e2
  go_wp2_with fail
  go_ret
  exact ⟨by rw [HE.out]; simp, by rw [← HW.out]; exact HB.out⟩
set_option maxRecDepth 100000 in
set_option maxHeartbeats 8000000 in
theorem wiMeet_any (u : Int) (p q : Nat) (s : Ln.S) (m : Ln.M) (a : Option Addr) (k : Nat) (b : Option Addr) (l : Nat) (n x y : Int) (w0 w : World) (h : WiS u p q s m a k b l n w0 w) (hn : s.wait.length ≤ 1048576) (hm : m.notes.length ≤ 1048576) (hg : LnG w0) :
    Calls Tryz.prog 27 #[.pointer (some ⟨q, 0, none⟩), .agg #[.int .i64 x, .int .i64 y]] w fun e W' => (Ln.EvOk x y ∧ e = .returned .nilIface ∧ WiEnd u p q (Ln.meet u (s, m) x y) w0 W') ∨ (¬ Ln.EvOk x y ∧ e = .returned (.iface 74 (.agg #[.int .i64 1])) ∧ WiEnd u p q (s, m) w0 W') := by
  obtain ⟨W, hW⟩ : ∃ W, W = w.alloc (.cells #[.int .i64 x, .int .i64 y] 35) := ⟨_, rfl⟩
  have HB : Below w.heap.size w W := by rw [hW]; exact nbel_alloc _ _
  have H := Lib.hid (h.below HB)
  have HX : Hid (W.rowIs w.heap.size 35 2 (rowN [.int .i64 x, .int .i64 y])) := by show W.rowIs _ _ _ _; rw [hW]; exact rowN_alloc w [.int .i64 x, .int .i64 y] _
  have HG := Lib.hid hg
  have hql := h.rq.lt
  have HPQ := Lib.hid h.num
  obtain ⟨⟨x0, x1⟩, _⟩ := rowN2 HX.out
  rw [hW] at x0 x1
  have HW := Lib.hid hW
  clear hW h hg HB
  go_enter Tryz.func27, Tryz.ntmps27
  go_wp2_with fail
  rw [← HW.out]
  clear HW x0 x1
  refine (evRight_any x y _).mono ?_
  rintro e V ⟨rfl, hb⟩
  replace H := Lib.hid (H.out.below hb)
  replace HX := Lib.hid (nrow_below HX.out hb)
  clear hb
  obtain ⟨⟨x0, x1⟩, _⟩ := rowN2 HX.out
  by_cases c : Ln.EvOk x y
  case neg =>
    rw [lB_ff c]
    have HC := Lib.hid c
    clear c
    go_wp2_with fail
    go_ret
    exact Or.inr ⟨HC.out, rfl, a, k, b, l, n, H.out⟩
  rw [lB_tt c]
  have HC := Lib.hid c
  clear c
  by_cases e1 : x = 1
  case neg =>
    have d1 : (x == 1) = false := by simpa using e1
    have HE2 : Hid (x = 2) := by rcases HC.out with h | h <;> first | omega | exact h.1
    clear e1
    go_wp2_with fail
    refine (wiPoll_any u p q s m a k b l n y w0 _ H.out hn hm HG.out).mono ?_
    rintro e V2 ⟨rfl, hE⟩
    go_wp2_with fail
    go_ret
    refine Or.inl ⟨HC.out, rfl, ?_⟩
    rw [HE2.out]
    exact hE
  have d1 : (x == 1) = true := by simpa using e1
  have HE1 := Lib.hid e1
  clear e1
  go_wp2_with fail
  refine wp_region_held_drew (S := fun Y => Y.rowIs q 58 5 (rowN (wiL u p m b l)) ∧ Y.rowIs w.heap.size 35 2 (rowN [.int .i64 x, .int .i64 y])) (by kernel_rfl) ⟨(H.out.below (Below.refl _ _).drew).rq, nrow_below HX.out (Below.refl _ _).drew⟩ (fun hHeld => ?_)
  have H5 := Lib.hid (H.out.below (Below.refl _ _).drew)
  clear H HX x0 x1
  generalize V.drew = V5 at hHeld H5 ⊢
  refine take_do (i := 0) (v := (.pointer (some ⟨q, 0, none⟩))) rfl (by kernel_rfl) (by kernel_rfl) (by kernel_rfl) (fun _ _ _ h => h) (by rfl) ?_ (by assumption) ?_
  · intro w hSw
    go_simp
  simp only [Act.put, List.setIfInBounds_toArray, List.set_cons_zero, List.set_cons_succ]
  refine take_do (i := 1) (v := (.pointer (some ⟨q, 0, none⟩))) rfl (by kernel_rfl) (by kernel_rfl) (by kernel_rfl) (fun _ _ _ h => h) (by rfl) ?_ (by assumption) ?_
  · intro w hSw
    go_simp
  simp only [Act.put, List.setIfInBounds_toArray, List.set_cons_zero, List.set_cons_succ]
  refine take_do (i := 2) (v := (.pointer (some ⟨q, 1, none⟩))) rfl (by kernel_rfl) (by kernel_rfl) (by kernel_rfl) (fun _ _ _ h => h) (by rfl) ?_ (by assumption) ?_
  · intro w hSw
    go_simp
  simp only [Act.put, List.setIfInBounds_toArray, List.set_cons_zero, List.set_cons_succ]
  refine take_do (i := 3) (v := (.pointer (some ⟨p, 0, none⟩))) rfl (by kernel_rfl) (by kernel_rfl) (by kernel_rfl) (fun _ _ _ h => h) (by rfl) ?_ (by assumption) ?_
  · intro w hSw
    obtain ⟨⟨x0, x1, x2, x3, x4⟩, _⟩ := rowN5l hSw.1
    go_simp
  simp only [Act.put, List.setIfInBounds_toArray, List.set_cons_zero, List.set_cons_succ]
  refine take_do (i := 4) (v := (.pointer (some ⟨w.heap.size, 1, none⟩))) rfl (by kernel_rfl) (by kernel_rfl) (by kernel_rfl) (fun _ _ _ h => h) (by rfl) ?_ (by assumption) ?_
  · intro w hSw
    go_simp
  simp only [Act.put, List.setIfInBounds_toArray, List.set_cons_zero, List.set_cons_succ]
  refine take_do (i := 5) (v := (.int .i64 y)) rfl (by kernel_rfl) (by kernel_rfl) (by kernel_rfl) (fun _ _ _ h => h) (by rfl) ?_ (by assumption) ?_
  · intro w hSw
    obtain ⟨⟨x0, x1⟩, _⟩ := rowN2 hSw.2
    go_simp
  simp only [Act.put, List.setIfInBounds_toArray, List.set_cons_zero, List.set_cons_succ]
  refine take_call (i := 6) rfl (by kernel_rfl) (fun K2 hK => ?_)
  go_simp
  refine (poNote_any s a k n y p _ H5.out.rp (H5.out.ts.low (by have := HPQ.out; omega)) hn).mono ?_
  rintro e V6 ⟨rfl, hE⟩
  obtain ⟨a6, k6, H6⟩ := H5.out.post hE
  obtain ⟨_, _, _, _, hO⟩ := hE
  have hx6 := hO.row (by have := HPQ.out; omega) hHeld.2
  have HH6 := Lib.hid H6
  clear H6 H5
  go_wp2_with fail
  refine hK.out _ _ ⟨HH6.out.rq, hx6⟩ (fun hHeld2 => ?_)
  clear hK hHeld hHeld2 hx6 hO
  refine wpAnyH_done (by kernel_rfl) ?_ _
  go_wp2_with fail
  go_ret
  refine Or.inl ⟨HC.out, rfl, ?_⟩
  rw [Ln.meet_value u s m HE1.out]
  exact ⟨a6, k6, b, l, n, HH6.out⟩
set_option maxRecDepth 100000 in
set_option maxHeartbeats 8000000 in
theorem newWire_any (u b : Int) (w : World) :
    Calls Tryz.prog 26 #[.int .i64 u, .int .i64 b] w fun e W' => (Ln.Fit u b ∧ ∃ p q, e = .returned (.tuple #[.pointer (some ⟨q, 0, none⟩), .nilIface]) ∧ WiS u p q (Ln.S.new u b) Ln.M.new none 0 none 0 0 w W') ∨ (¬ Ln.Fit u b ∧ (∃ t, e = .returned (.tuple #[.pointer none, errV t 1])) ∧ Below w.heap.size w W') := by
  obtain ⟨W, hW⟩ : ∃ W, W = w.alloc (.cells #[.int .i64 u, .int .i64 b, .bool false, .int .i64 0, .int .i64 1, .slice none 0 0, .int .i64 0] 28) := ⟨_, rfl⟩
  have HB : Hid (Below w.heap.size w W) := by show Below _ _ _; rw [hW]; exact nbel_alloc _ _
  have HX : Hid (W.rowIs w.heap.size 28 7 (rowN [.int .i64 u, .int .i64 b, .bool false, .int .i64 0, .int .i64 1, .slice none 0 0, .int .i64 0])) := by show W.rowIs _ _ _ _; rw [hW]; exact rowN_alloc w [.int .i64 u, .int .i64 b, .bool false, .int .i64 0, .int .i64 1, .slice none 0 0, .int .i64 0] _
  obtain ⟨⟨x0, x1, x2, x3, x4, x5, x6⟩, _⟩ := rowN7 HX.out
  rw [hW] at x0 x1 x2 x3 x4 x5 x6
  have HW := Lib.hid hW
  clear hW
  go_enter Tryz.func26, Tryz.ntmps26
  go_wp2_with fail
  rw [← HW.out]
  clear HW x0 x1 x2 x3 x4 x5 x6
  refine (implSRight_any (Ln.S.new u b) none 0 _ (Or.inl rfl) (by show (0 : Nat) ≤ _; omega)).mono ?_
  rintro e V ⟨rfl, hb⟩
  replace HX := Lib.hid (nrow_below HX.out hb)
  replace HB : Hid (Below w.heap.size w V) := HB.out.trans (hb.mono HB.out.size)
  clear hb
  by_cases c : Ln.Fit u b
  case neg =>
    rw [lB_ff (fun h => c (Ln.new_right.1 h))]
    go_wp2_with fail
    go_ret2
    exact Or.inr ⟨c, ⟨_, rfl⟩, HB.out⟩
  rw [lB_tt (Ln.new_right.2 c)]
  obtain ⟨⟨x0, x1, x2, x3, x4, x5, x6⟩, _⟩ := rowN7 HX.out
  go_wp2_with fail
  go_ret2
  refine Or.inl ⟨c, V.heap.size, V.heap.size + 1, ?_, ?_⟩
  · simp
  obtain ⟨V1, hV1⟩ : ∃ V1, V1 = V.alloc (.cells #[.int .i32 0, .int .u32 0, .int .i64 u, .int .i64 b, .bool false, .int .i64 0, .int .i64 1, .slice none 0 0, .int .i64 0, .int .i64 0] 92) := ⟨_, rfl⟩
  have r1 : V1.rowIs V.heap.size 92 10 (rowN (poL 0 (Ln.S.new u b) none 0 0)) := by rw [hV1]; exact rowN_alloc V [.int .i32 0, .int .u32 0, .int .i64 u, .int .i64 b, .bool false, .int .i64 0, .int .i64 1, .slice none 0 0, .int .i64 0, .int .i64 0] _
  have s1 : V1.heap.size = V.heap.size + 1 := by rw [hV1]; simp
  have b1 : Below w.heap.size w V1 := by rw [hV1]; exact HB.out.trans ((nbel_alloc _ _).mono HB.out.size)
  rw [← hV1]
  exact ⟨nrow_below r1 (nbel_alloc _ _), rowN_alloc' s1 (wiL u V.heap.size Ln.M.new none 0) _, Or.inl rfl, Or.inl rfl, fun _ _ _ _ h => absurd rfl h, ⟨HB.out.size, by omega⟩, b1.trans ((nbel_alloc _ _).mono b1.size), by unfold Nb; omega⟩
end Go.Proofs.YtdlojhncbgfjbaaGreatDoor
namespace Go.Proofs.YtdlojhncbgfjbaaGreatDoor
open Go.RowKit Go.Deep

theorem lnItoa_any (k : Nat) (hk : k < 100000) (w : World) (ht : TabOk w) : Calls Tryz.prog 30 #[.int .i64 k] w fun e w' => (∃ s, e = .returned (.string s) ∧ s.size ≤ 200) ∧ Below w.heap.size w w' :=
  (Tryz.strconv_Itoa (k : Int) (by omega) (by omega) w ht).mono fun _ _ ⟨he, q, os, hw⟩ => ⟨⟨_, he, by have := Lib.itoa_length_le (k : Int) (by omega) (by omega); simp [ByteArray.size]; omega⟩, by rw [hw]; exact Lib.below_grow _ w (Nat.le_refl _) q os⟩
theorem lnFmt_any (n : Int) (hn : Nb n) (w : World) (ht : TabOk w) : Calls Tryz.prog 28 #[.int .i64 n, .int .i64 10] w fun e w' => (∃ s, e = .returned (.string s) ∧ s.size ≤ 200) ∧ Below w.heap.size w w' :=
  (Tryz.strconv_FormatInt_10 n hn.1 hn.2 w ht).mono fun _ _ ⟨he, q, os, hw⟩ => ⟨⟨_, he, by have := Lib.itoa_length_le n hn.1 hn.2; simp [ByteArray.size]; omega⟩, by rw [hw]; exact Lib.below_grow _ w (Nat.le_refl _) q os⟩
def RlEnd (u b : Int) (f : Nat → Int) (n : Nat) (e : Ending) (w W : World) : Prop :=
  (n ≤ 200 ∧ Ln.Fit u b ∧ Ln.EvsOk f n ∧ ∃ p q, e = .returned (.tuple #[.pointer (some ⟨q, 0, none⟩), .nilIface]) ∧ WiEnd u p q (Ln.run u b f n) w W) ∨
  (∃ t c, e = .returned (.tuple #[.pointer none, errV t c]) ∧ ((200 < n ∧ c = 2) ∨ (n ≤ 200 ∧ ¬ (Ln.Fit u b ∧ Ln.EvsOk f n) ∧ c = 1)) ∧ Below w.heap.size w W)
set_option maxRecDepth 100000 in
set_option maxHeartbeats 8000000 in
theorem runLink_any (u b : Int) (ea : Option Addr) (n ec : Nat) (f : Nat → Int) (w : World) (h : IsIn ea (n * 2) f w) (hg : LnG w) :
    Calls Tryz.prog 16 #[.int .i64 u, .int .i64 b, .slice ea n ec] w fun e W' => RlEnd u b f n e w W' := by
  have H := Lib.hid h
  have HG := Lib.hid hg
  clear h hg
  go_enter Tryz.func16, Tryz.ntmps16
  by_cases k0 : (200 : Int) < (n : Int)
  · go_wp2_with fail
    go_ret2
    exact Or.inr ⟨_, _, rfl, Or.inl ⟨by omega, rfl⟩, Below.refl _ _⟩
  have hn : n ≤ 200 := by omega
  go_wp2_with fail
  refine (newWire_any u b _).mono ?_
  rintro e V (⟨hf, p, q, rfl, hS⟩ | ⟨hf, ⟨t, rfl⟩, hb⟩)
  case inr =>
    go_wp2_with fail
    go_ret2
    exact Or.inr ⟨t, 1, rfl, Or.inr ⟨hn, fun h => hf h.1, rfl⟩, hb⟩
  have HF := Lib.hid hf
  have HS := Lib.hid hS
  clear hf hS
  go_wp2_with fail
  go_loopw [10, 11, 12, 13, 32] (fun _ _ _ _ iv wr => ∃ (i : Nat), i ≤ n ∧ iv = .int .i64 i ∧ Hid (Ln.EvsOk f i) ∧ Hid (WiEnd u p q (Ln.run u b f i) w wr)) (fun _ _ _ _ iv _ => n - (intOf iv).toNat)
  case atStart => exact ⟨0, Nat.zero_le _, rfl, Ln.EvsOk.zero f, ⟨none, 0, none, 0, 0, HS.out⟩⟩
  case round =>
    obtain ⟨i, hin, rfl, hok, hE⟩ := hrel
    by_cases hlt : i < n
    · have hltz : (i : Int) < (n : Int) := by omega
      obtain ⟨a, k, b', l, m', hW⟩ := hE.out
      obtain ⟨S, M, hSM⟩ : ∃ S M, Ln.run u b f i = (S, M) := ⟨_, _, rfl⟩
      have HL := Ln.run_len u b f i
      rw [hSM] at hW HL
      have HW : Hid (WiS u p q S M a k b' l m' w wr) := hW
      have hl1 : Hid (S.wait.length ≤ 1048576) := HL.1
      have hl2 : Hid (M.notes.length ≤ 1048576) := HL.2
      have HR : Hid (Ln.run u b f (i + 1) = Ln.meet u (S, M) (f (i * 2)) (f (i * 2 + 1))) := Ln.run_at hSM
      clear hE hW HL hSM
      obtain ⟨g, o, hea, c0, c1⟩ := (H.out.below HW.out.bel).at2 hlt
      obtain ⟨x, hx⟩ : ∃ x, x = f (i * 2) := ⟨_, rfl⟩
      obtain ⟨y, hy⟩ : ∃ y, y = f (i * 2 + 1) := ⟨_, rfl⟩
      have HX := Lib.hid hx
      have HY := Lib.hid hy
      rw [← hx] at c0
      rw [← hy] at c1
      clear hx hy
      have HEA := Lib.hid hea
      subst hea
      obtain ⟨V1, hV1⟩ : ∃ V1, V1 = wr.alloc (.cells #[.int .i64 x, .int .i64 y] 35) := ⟨_, rfl⟩
      have H1 : Hid (WiS u p q S M a k b' l m' w V1) := by show WiS _ _ _ _ _ _ _ _ _ _ _ _; rw [hV1]; exact HW.out.below (nbel_alloc _ _)
      have X1 : Hid (V1.rowIs wr.heap.size 35 2 (rowN [.int .i64 x, .int .i64 y])) := by show V1.rowIs _ _ _ _; rw [hV1]; exact rowN_alloc wr [.int .i64 x, .int .i64 y] _
      obtain ⟨⟨x0, x1⟩, _⟩ := rowN2 X1.out
      have HV1 := Lib.hid hV1
      rw [hV1] at x0 x1
      clear hV1
      go_wp2_with fail
      rw [← HV1.out]
      clear HV1 x0 x1 c0 c1
      refine (wiMeet_any u p q S M a k b' l m' x y w _ H1.out hl1.out hl2.out HG.out).mono ?_
      rintro e V2 (⟨hev, rfl, hE⟩ | ⟨hev, rfl, hE⟩)
      · go_wp2_with fail
        go_roundw
        case rel => exact ⟨i + 1, by omega, by go_num, hok.out.step (by rw [← HX.out, ← HY.out]; exact hev), by show WiEnd _ _ _ _ _ _; rw [HR.out, ← HX.out, ← HY.out]; exact hE⟩
        case measure => simp [intOf]; omega
      have HEV : Hid (¬ (Ln.Fit u b ∧ Ln.EvsOk f n)) := fun h => hev (by rw [HX.out, HY.out]; exact h.2 i hlt)
      clear hev H1 X1
      obtain ⟨a2, k2, b2, l2, m2, hW2⟩ := hE
      have H2 : Hid (WiS u p q S M a2 k2 b2 l2 m2 w V2) := hW2
      clear hW2
      obtain ⟨⟨z0, z1, z2, z3, z4⟩, _⟩ := rowN5l H2.out.rq
      have c9 : V2.cell? ⟨p, 9, none⟩ = some (.int .i64 m2) := (rowN10 H2.out.rp).1.2.2.2.2.2.2.2.2.2
      go_wp2_with fail
      refine (at64_load p 9 m2 _ c9).mono ?_
      rintro e w' ⟨rfl, rfl⟩
      clear c9 z0 z1 z2 z3 z4
      go_wp2_with fail
      refine (lnFmt_any m2 H2.out.nb _ (HG.out.below H2.out.bel).tab).mono ?_
      rintro e V3 ⟨⟨t3, rfl, ht3⟩, hb3⟩
      have B3 : Hid (Below w.heap.size w V3) := H2.out.bel.trans (hb3.mono H2.out.bel.size)
      clear hb3 H2
      go_wp2_with fail
      refine (lnItoa_any i (by omega) _ (HG.out.below B3.out).tab).mono ?_
      rintro e V4 ⟨⟨t4, rfl, ht4⟩, hb4⟩
      have B4 : Hid (Below w.heap.size w V4) := B3.out.trans (hb4.mono B3.out.size)
      clear hb4 B3
      go_wp2_with fail
      go_ret2
      exact Or.inr ⟨_, 1, rfl, Or.inr ⟨hn, HEV.out, rfl⟩, B4.out⟩
    · obtain rfl : i = n := by omega
      go_wp2_with fail
      go_ret2
      exact Or.inl ⟨hn, HF.out, hok.out, p, q, rfl, hE.out⟩
end Go.Proofs.YtdlojhncbgfjbaaGreatDoor
namespace Go.Proofs.YtdlojhncbgfjbaaGreatDoor
open Go.RowKit Go.Deep

set_option maxRecDepth 100000 in
set_option maxHeartbeats 8000000 in
theorem implRun_any (u b : Int) (ea : Option Addr) (n ec : Nat) (f : Nat → Int) (w : World) (h : IsIn ea (n * 2) f w) (hg : LnG w) :
    Calls Tryz.prog 7 #[.int .i64 u, .int .i64 b, .slice ea n ec] w fun e W' => LoEnd (Ln.lst u b f n) (Ln.lma u b f n) (Ln.lcode u b f n) w.heap.size e W' ∧ Below w.heap.size w W' := by
  obtain ⟨W, hW⟩ : ∃ W, W = w.alloc (.cells #[.int .i64 0, .int .i64 0, .bool false, .int .i64 0, .int .i64 0, .slice none 0 0, .int .i64 0, .int .i64 0, .slice none 0 0, .int .i64 0, .int .i64 0] 32) := ⟨_, rfl⟩
  have hb0 : Below w.heap.size w W := by rw [hW]; exact nbel_alloc _ _
  have HB : Hid (Below w.heap.size w W) := hb0
  have HY : Hid (W.rowIs w.heap.size 32 11 (rowN loZ)) := by show W.rowIs _ _ _ _; rw [hW]; exact rowN_alloc w loZ _
  have hsz : W.heap.size = w.heap.size + 1 := by rw [hW]; simp
  have H := Lib.hid (h.below hb0)
  have HG := Lib.hid (hg.below hb0)
  have HW := Lib.hid hW
  clear h hg hW hb0
  go_enter Tryz.func7, Tryz.ntmps7
  go_wp2_with fail
  rw [← HW.out]
  clear HW
  refine (runLink_any u b ea n ec f _ H.out HG.out).mono ?_
  rintro e V (⟨hn, hf, hv, p, q, rfl, a, k, m', l, n', hS⟩ | ⟨t, c, rfl, hc, hb⟩)
  case inr =>
    have HE : Hid (Ln.lcode u b f n = c ∧ Ln.lst u b f n = Ln.S.zero ∧ Ln.lma u b f n = Ln.M.new) := by
      rcases hc with ⟨h1, h2⟩ | ⟨h1, h2, h3⟩
      · rw [h2]; exact Ln.lout_big h1
      · rw [h3]; exact Ln.lout_no h1 h2
    have HYV := Lib.hid (nrow_below HY.out hb)
    have HBV : Hid (Below w.heap.size w V) := HB.out.trans (hb.mono HB.out.size)
    have HGV := Lib.hid (HG.out.below hb)
    clear hb hc HY HB HG
    go_wp2_with fail
    refine (codeOf_errV t c _ HGV.out.typ).mono ?_
    rintro e V2 ⟨rfl, hb⟩
    have HY2 := Lib.hid (nrow_below HYV.out hb)
    have HB2 : Hid (Below w.heap.size w V2) := HBV.out.trans (hb.mono HBV.out.size)
    clear hb HYV HBV HGV
    obtain ⟨⟨y0, y1, y2, y3, y4, y5, y6, y7, y8, y9, y10⟩, g0, g1, g2, g3, g4, g5, g6, g7, g8, g9, g10⟩ := rowN11 HY2.out
    have hl0 := HY2.out.lt
    have zr := Lib.hid (lput11 HY2.out rfl (.int .i64 0) (.int .i64 0) (.bool false) (.int .i64 0) (.int .i64 0) (.slice none 0 0) (.int .i64 0) (.int .i64 0) (.slice none 0 0) (.int .i64 0) (.int .i64 c))
    have zb := Lib.hid (lbel11 HB2.out (Nat.le_refl _) (.int .i64 0) (.int .i64 0) (.bool false) (.int .i64 0) (.int .i64 0) (.slice none 0 0) (.int .i64 0) (.int .i64 0) (.slice none 0 0) (.int .i64 0) (.int .i64 c))
    go_wp2_with fail
    refine bodyPost_ret (v := loV Ln.S.zero Ln.M.new none 0 none 0 c) ?_ rfl ⟨by rw [HE.out.1, HE.out.2.1, HE.out.2.2]; exact LoEnd.zero c _ _, zb.out⟩
    obtain ⟨⟨t0, t1, t2, t3, t4, t5, t6, t7, t8, t9, t10⟩, _⟩ := rowN11 zr.out
    clear y0 y1 y2 y3 y4 y5 y6 y7 y8 y9 y10 g0 g1 g2 g3 g4 g5 g6 g7 g8 g9 g10
    simp only [results, Tryz.results7]
    simp [go_sem, t0, t1, t2, t3, t4, t5, t6, t7, t8, t9, t10, loV, Ln.S.zero, Ln.M.new]
  have hE1 := Ln.lout_yes hn hf hv
  obtain ⟨S, M, hSM⟩ : ∃ S M, Ln.run u b f n = (S, M) := ⟨_, _, rfl⟩
  rw [hSM] at hS hE1
  have HE : Hid (Ln.lcode u b f n = 0 ∧ Ln.lst u b f n = S ∧ Ln.lma u b f n = M) := hE1
  have HS : Hid (WiS u p q S M a k m' l n' W V) := hS
  have HYV := Lib.hid (nrow_below HY.out HS.out.bel)
  have HBV : Hid (Below w.heap.size w V) := HB.out.trans (HS.out.bel.mono HB.out.size)
  have HPQ := Lib.hid HS.out.num
  clear hE1 hS hSM hn hf hv HY HB HG
  go_wp2_with fail
  refine wp_region_held_drew (S := fun Y => Y.rowIs q 58 5 (rowN (wiL u p M m' l))) (by kernel_rfl) (HS.out.below (Below.refl _ _).drew).rq (fun hHeld => ?_)
  have H5 := Lib.hid (HS.out.below (Below.refl _ _).drew)
  have HY5 := Lib.hid (nrow_below HYV.out (Below.refl _ _).drew)
  have HB5 : Hid (Below w.heap.size w V.drew) := HBV.out.trans ((Below.refl _ _).drew.mono HBV.out.size)
  clear HS HYV HBV
  generalize V.drew = V5 at hHeld H5 HY5 HB5 ⊢
  refine take_do (i := 0) (v := (.pointer (some ⟨q, 0, none⟩))) rfl (by kernel_rfl) (by kernel_rfl) (by kernel_rfl) (fun _ _ _ h => h) (by rfl) ?_ (by assumption) ?_
  · intro w hSw
    go_simp
  simp only [Act.put, List.setIfInBounds_toArray, List.set_cons_zero, List.set_cons_succ]
  refine take_do (i := 1) (v := (.pointer (some ⟨q, 0, none⟩))) rfl (by kernel_rfl) (by kernel_rfl) (by kernel_rfl) (fun _ _ _ h => h) (by rfl) ?_ (by assumption) ?_
  · intro w hSw
    go_simp
  simp only [Act.put, List.setIfInBounds_toArray, List.set_cons_zero, List.set_cons_succ]
  refine take_do (i := 2) (v := (.pointer (some ⟨q, 1, none⟩))) rfl (by kernel_rfl) (by kernel_rfl) (by kernel_rfl) (fun _ _ _ h => h) (by rfl) ?_ (by assumption) ?_
  · intro w hSw
    go_simp
  simp only [Act.put, List.setIfInBounds_toArray, List.set_cons_zero, List.set_cons_succ]
  refine take_do (i := 3) (v := (.pointer (some ⟨p, 0, none⟩))) rfl (by kernel_rfl) (by kernel_rfl) (by kernel_rfl) (fun _ _ _ h => h) (by rfl) ?_ (by assumption) ?_
  · intro w hSw
    obtain ⟨⟨x0, x1, x2, x3, x4⟩, _⟩ := rowN5l hSw
    go_simp
  simp only [Act.put, List.setIfInBounds_toArray, List.set_cons_zero, List.set_cons_succ]
  refine take_do (i := 5) (v := (.pointer (some ⟨q, 0, none⟩))) rfl (by kernel_rfl) (by kernel_rfl) (by kernel_rfl) (fun _ _ _ h => h) (by rfl) ?_ (by assumption) ?_
  · intro w hSw
    go_simp
  simp only [Act.put, List.setIfInBounds_toArray, List.set_cons_zero, List.set_cons_succ]
  refine take_do (i := 6) (v := (.pointer (some ⟨q, 0, none⟩))) rfl (by kernel_rfl) (by kernel_rfl) (by kernel_rfl) (fun _ _ _ h => h) (by rfl) ?_ (by assumption) ?_
  · intro w hSw
    go_simp
  simp only [Act.put, List.setIfInBounds_toArray, List.set_cons_zero, List.set_cons_succ]
  refine take_do (i := 7) (v := (.pointer (some ⟨q, 2, none⟩))) rfl (by kernel_rfl) (by kernel_rfl) (by kernel_rfl) (fun _ _ _ h => h) (by rfl) ?_ (by assumption) ?_
  · intro w hSw
    go_simp
  simp only [Act.put, List.setIfInBounds_toArray, List.set_cons_zero, List.set_cons_succ]
  refine take_do (i := 8) (v := (maV M m' l)) rfl (by kernel_rfl) (by kernel_rfl) (by kernel_rfl) (fun _ _ _ h => h) (by rfl) ?_ (by assumption) ?_
  · intro w hSw
    obtain ⟨⟨x0, x1, x2, x3, x4⟩, _⟩ := rowN5l hSw
    go_simp
  simp only [Act.put, List.setIfInBounds_toArray, List.set_cons_zero, List.set_cons_succ]
  refine take_call (i := 4) rfl (by kernel_rfl) (fun K2 hK => ?_)
  go_simp
  refine (poStation_any S a k n' p _ H5.out.rp).mono ?_
  rintro e V6 ⟨rfl, hO⟩
  have hp := HPQ.out
  have hy5 := HY5.out.lt
  have H6 : Hid (V6.rowIs q 58 5 (rowN (wiL u p M m' l))) := hO.row (by omega) hHeld
  have HY6 : Hid (V6.rowIs w.heap.size 32 11 (rowN loZ)) := hO.row (by omega) HY5.out
  have HB6 : Hid (Below w.heap.size w V6) := hO.bel HB5.out (by omega) HB5.out.size
  have T1 : Hid (NqOwn 37 (q + 1) S.wait.length a (Ln.fl S.wait) V6) := hO.own (by omega) H5.out.ts
  have T2 : Hid (NqOwn 37 (q + 1) M.notes.length m' (Ln.fl M.notes) V6) := hO.own (by omega) H5.out.tm
  have DJ := Lib.hid H5.out.dj
  go_wp2_with fail
  refine hK.out _ _ H6.out (fun hHeld2 => ?_)
  clear hK hHeld hO HY5 HB5 H5
  have hHeld := hHeld2
  clear hHeld2
  refine take_do (i := 9) (v := (loV S M a k m' l 0)) rfl (by kernel_rfl) (by kernel_rfl) (by kernel_rfl) (fun _ _ _ h => h) (by rfl) ?_ (by assumption) ?_
  · intro w hSw
    go_simp
  simp only [Act.put, List.setIfInBounds_toArray, List.set_cons_zero, List.set_cons_succ]
  obtain ⟨⟨y0, y1, y2, y3, y4, y5, y6, y7, y8, y9, y10⟩, g0, g1, g2, g3, g4, g5, g6, g7, g8, g9, g10⟩ := rowN11 HY6.out
  have hl0 := HY6.out.lt
  have zr := Lib.hid (lput11 HY6.out rfl (.int .i64 S.unit) (.int .i64 S.band) (.bool S.seen) (.int .i64 S.last) (.int .i64 S.next) (.slice a S.wait.length k) (.int .i64 S.drops) (.int .i64 M.seq) (.slice m' M.notes.length l) (.int .i64 M.gaps) (.int .i64 0))
  have zb := Lib.hid (lbel11 HB6.out (Nat.le_refl _) (.int .i64 S.unit) (.int .i64 S.band) (.bool S.seen) (.int .i64 S.last) (.int .i64 S.next) (.slice a S.wait.length k) (.int .i64 S.drops) (.int .i64 M.seq) (.slice m' M.notes.length l) (.int .i64 M.gaps) (.int .i64 0))
  have zq : Hid ((((((((((((V6.setCell ⟨w.heap.size, 0, none⟩ (.int .i64 S.unit)).setCell ⟨w.heap.size, 1, none⟩ (.int .i64 S.band)).setCell ⟨w.heap.size, 2, none⟩ (.bool S.seen)).setCell ⟨w.heap.size, 3, none⟩ (.int .i64 S.last)).setCell ⟨w.heap.size, 4, none⟩ (.int .i64 S.next)).setCell ⟨w.heap.size, 5, none⟩ (.slice a S.wait.length k)).setCell ⟨w.heap.size, 6, none⟩ (.int .i64 S.drops)).setCell ⟨w.heap.size, 7, none⟩ (.int .i64 M.seq)).setCell ⟨w.heap.size, 8, none⟩ (.slice m' M.notes.length l)).setCell ⟨w.heap.size, 9, none⟩ (.int .i64 M.gaps)).setCell ⟨w.heap.size, 10, none⟩ (.int .i64 0)).rowIs q 58 5 (rowN (wiL u p M m' l))) := H6.out.of_block (lblk11 (by omega) (.int .i64 S.unit) (.int .i64 S.band) (.bool S.seen) (.int .i64 S.last) (.int .i64 S.next) (.slice a S.wait.length k) (.int .i64 S.drops) (.int .i64 M.seq) (.slice m' M.notes.length l) (.int .i64 M.gaps) (.int .i64 0))
  have z1 : Hid (NqOwn 37 (q + 1) S.wait.length a (Ln.fl S.wait) (((((((((((V6.setCell ⟨w.heap.size, 0, none⟩ (.int .i64 S.unit)).setCell ⟨w.heap.size, 1, none⟩ (.int .i64 S.band)).setCell ⟨w.heap.size, 2, none⟩ (.bool S.seen)).setCell ⟨w.heap.size, 3, none⟩ (.int .i64 S.last)).setCell ⟨w.heap.size, 4, none⟩ (.int .i64 S.next)).setCell ⟨w.heap.size, 5, none⟩ (.slice a S.wait.length k)).setCell ⟨w.heap.size, 6, none⟩ (.int .i64 S.drops)).setCell ⟨w.heap.size, 7, none⟩ (.int .i64 M.seq)).setCell ⟨w.heap.size, 8, none⟩ (.slice m' M.notes.length l)).setCell ⟨w.heap.size, 9, none⟩ (.int .i64 M.gaps)).setCell ⟨w.heap.size, 10, none⟩ (.int .i64 0))) := T1.out.same (fun zz hz _ => lblk11 (by omega) (.int .i64 S.unit) (.int .i64 S.band) (.bool S.seen) (.int .i64 S.last) (.int .i64 S.next) (.slice a S.wait.length k) (.int .i64 S.drops) (.int .i64 M.seq) (.slice m' M.notes.length l) (.int .i64 M.gaps) (.int .i64 0))
  have z2 : Hid (NqOwn 37 (q + 1) M.notes.length m' (Ln.fl M.notes) (((((((((((V6.setCell ⟨w.heap.size, 0, none⟩ (.int .i64 S.unit)).setCell ⟨w.heap.size, 1, none⟩ (.int .i64 S.band)).setCell ⟨w.heap.size, 2, none⟩ (.bool S.seen)).setCell ⟨w.heap.size, 3, none⟩ (.int .i64 S.last)).setCell ⟨w.heap.size, 4, none⟩ (.int .i64 S.next)).setCell ⟨w.heap.size, 5, none⟩ (.slice a S.wait.length k)).setCell ⟨w.heap.size, 6, none⟩ (.int .i64 S.drops)).setCell ⟨w.heap.size, 7, none⟩ (.int .i64 M.seq)).setCell ⟨w.heap.size, 8, none⟩ (.slice m' M.notes.length l)).setCell ⟨w.heap.size, 9, none⟩ (.int .i64 M.gaps)).setCell ⟨w.heap.size, 10, none⟩ (.int .i64 0))) := T2.out.same (fun zz hz _ => lblk11 (by omega) (.int .i64 S.unit) (.int .i64 S.band) (.bool S.seen) (.int .i64 S.last) (.int .i64 S.next) (.slice a S.wait.length k) (.int .i64 S.drops) (.int .i64 M.seq) (.slice m' M.notes.length l) (.int .i64 M.gaps) (.int .i64 0))
  refine take_call (i := 10) rfl (by kernel_rfl) (fun K2 hK => ?_)
  go_simp
  refine hK.out _ _ zq.out (fun hHeld2 => ?_)
  clear hK hHeld hHeld2 H6 HY6 HB6 T1 T2 y0 y1 y2 y3 y4 y5 y6 y7 y8 y9 y10 g0 g1 g2 g3 g4 g5 g6 g7 g8 g9 g10
  refine wpAnyH_done (by kernel_rfl) ?_ _
  go_wp2_with fail
  refine bodyPost_ret (v := loV S M a k m' l 0) ?_ rfl ⟨by rw [HE.out.1, HE.out.2.1, HE.out.2.2]; exact ⟨a, k, m', l, rfl, z1.out.low (by omega), z2.out.low (by omega), DJ.out⟩, zb.out⟩
  obtain ⟨⟨t0, t1, t2, t3, t4, t5, t6, t7, t8, t9, t10⟩, _⟩ := rowN11 zr.out
  simp only [results, Tryz.results7]
  simp [go_sem, t0, t1, t2, t3, t4, t5, t6, t7, t8, t9, t10, loV]
end Go.Proofs.YtdlojhncbgfjbaaGreatDoor
namespace Go.Proofs.YtdlojhncbgfjbaaGreatDoor
open Go Go.RowKit Go.Deep

theorem lesrc_keep {sb : Nat} {w w' : World} (h : Src sb w) (hb : ∀ k, k ≤ sb → w'.heap[k]? = w.heap[k]?) : Src sb w' := by
  obtain ⟨a, len, cap, at_, mix, size, ⟨c0, c1, c2, c3, f0, f1, f2, f3⟩, h1, h2, h3, h4, h5, h6⟩ := h
  have ce : ∀ o, w'.cell? ⟨sb, o, none⟩ = w.cell? ⟨sb, o, none⟩ := fun o => World.cell?_of_block (hb sb (Nat.le_refl _))
  have fe : ∀ o, w'.frozen? ⟨sb, o, none⟩ = w.frozen? ⟨sb, o, none⟩ := fun o => World.frozen?_of_block (hb sb (Nat.le_refl _))
  refine ⟨a, len, cap, at_, mix, size, ⟨(ce 0).trans c0, (ce 1).trans c1, (ce 2).trans c2, (ce 3).trans c3, (fe 0).trans f0, (fe 1).trans f1, (fe 2).trans f2, (fe 3).trans f3⟩, h1, h2, h3, h4, h5, fun i hi => ?_⟩
  obtain ⟨cb, co, z, e, hne, hc, z0, z1⟩ := h6 i hi
  exact ⟨cb, co, z, e, hne, (World.cell?_of_block (a := ⟨cb, co + i, none⟩) (hb cb (by omega))).trans hc, z0, z1⟩
theorem ledrew_set {sb g i : Nat} {w V : World} {v : Value} (h : Drew sb w V) (h1 : sb < w.heap.size) (h2 : w.heap.size ≤ g) : Drew sb w (V.setCell ⟨g, i, none⟩ v) := by
  have hk : ∀ k, k ≠ g → (V.setCell ⟨g, i, none⟩ v).heap[k]? = V.heap[k]? := fun _ hk => Below.heap_setCell _ _ _ _ hk
  exact ⟨lesrc_keep h.1 (fun k hk2 => hk k (by omega)), ⟨h.2.1, h.2.2.1, h.2.2.2.1, by have := h.2.2.2.2.1; simpa using this, fun k hk2 hn => (hk k (by omega)).trans (h.2.2.2.2.2 k hk2 hn)⟩⟩
theorem ledrew_bel {sb : Nat} {w V V' : World} (h : Drew sb w V) (hb : Below V.heap.size V V') : Drew sb w V' := ⟨h.1.below hb, h.2.trans (Chg.of_below hb)⟩
theorem ledrew_more {sb : Nat} {w V V' : World} (h : Drew sb w V) (hd : Drew sb V V') : Drew sb w V' := ⟨hd.1, h.2.trans hd.2⟩
theorem leinfo : (Tryz.prog.info? 35).map (fun i => (i.zero, i.size, i.bytes)) = some (some (.agg #[.int .i64 0, .int .i64 0]), 2, 16) := by kernel_rfl
theorem leown_far {B n : Nat} {e : TypeId} {v : Value} {xs : List Value} {W W' : World} (h : W.ownsRow B e 2 v n xs) (hb : ∀ k, v.ownBlock = some k → k < W.heap.size → W'.heap[k]? = W.heap[k]?) : W'.ownsRow B e 2 v n xs := by
  obtain ⟨h1, h2⟩ := h
  refine ⟨h1, ?_⟩
  rcases h2 with h2 | ⟨g, cap, cur, e1, e2, e3, e4⟩
  · exact Or.inl h2
  · refine Or.inr ⟨g, cap, cur, e1, e2, ?_, e4⟩
    have hlt : g < W.heap.size := by
      rcases Nat.lt_or_ge g W.heap.size with h | h
      · exact h
      · rw [Array.getElem?_eq_none h] at e3; cases e3
    rw [hb g (by rw [e1]; rfl) hlt]; exact e3
/-- What stands while events are drawn. -/
def DeS (w : World) (sb : Nat) (v : Value) (zs : List (Int × Int)) (W : World) : Prop := W.ownsRow w.heap.size 35 2 v zs.length (nvs zs) ∧ Drew sb w W ∧ sb < w.heap.size
theorem DeS.draw {w : World} {sb : Nat} {v : Value} {zs : List (Int × Int)} {W W' : World} (h : DeS w sb v zs W) (hd : Drew sb W W') : DeS w sb v zs W' :=
  ⟨leown_far h.1 (fun k hk hl => hd.2.2.2.2.2 k hl (by have := (h.1.lt k hk).1; have := h.2.2; omega)), ledrew_more h.2.1 hd, h.2.2⟩
theorem DeS.bel {w : World} {sb : Nat} {v : Value} {zs : List (Int × Int)} {W W' : World} (h : DeS w sb v zs W) (hb : Below W.heap.size W W') : DeS w sb v zs W' :=
  ⟨leown_far h.1 (fun k _ hl => hb.block k hl), ledrew_bel h.2.1 hb, h.2.2⟩
theorem DeS.push {w : World} {sb : Nat} {v v' : Value} {zs : List (Int × Int)} {x : Int × Int} {W W' : World} {o : Obj} (h : DeS w sb v zs W) (hg : (W.alloc o).grownBy W' v.ownBlock)
    (hown : W'.ownsRow w.heap.size 35 2 v' (zs ++ [x]).length (nvs (zs ++ [x]))) : DeS w sb v' (zs ++ [x]) W' := by
  have hz := h.2.1.2.2.2.2.1
  have hrow : ∀ k, v.ownBlock = some k → w.heap.size ≤ k := fun k e => (h.1.lt k e).1
  have hk : ∀ k, k < w.heap.size → W'.heap[k]? = W.heap[k]? := fun k hk => by
    rw [hg.block k (by simp; omega) (fun e => by have := hrow k e.symm; omega)]
    exact blk_alloc_lt _ _ _ (by omega)
  refine ⟨hown, ⟨lesrc_keep h.2.1.1 (fun k hk2 => hk k (by have := h.2.2; omega)), ?_⟩, h.2.2⟩
  exact ⟨hg.os.trans h.2.1.2.1, hg.tape.trans h.2.1.2.2.1, hg.output.trans h.2.1.2.2.2.1, by have := hg.size; simp at this; omega, fun k hk1 hk2 => (hk k hk1).trans (h.2.1.2.2.2.2.2 k hk1 hk2)⟩
/-- A script that was drawn. -/
def DeT (w : World) (sb n : Nat) (la : Option Addr) (f : Nat → Int) (W : World) : Prop := NqOwn 35 w.heap.size n la f W ∧ IsAt la (n * 2) f W ∧ Drew sb w W ∧ sb < w.heap.size
theorem isAt_blk {la : Option Addr} {N : Nat} {f : Nat → Int} {W W' : World} (h : IsAt la N f W) (hb : ∀ g o, N ≠ 0 → la = some ⟨g, o, none⟩ → W'.heap[g]? = W.heap[g]?) : IsAt la N f W' := by
  by_cases h0 : N = 0
  · exact Or.inl h0
  rcases h with h | ⟨g, e, h⟩
  · exact absurd h h0
  · exact Or.inr ⟨g, e, fun j hj => (World.cell?_of_block (a := ⟨g, j, none⟩) (hb g 0 h0 e)).trans (h j hj)⟩
theorem DeT.draw {w : World} {sb n : Nat} {la : Option Addr} {f : Nat → Int} {W W' : World} (h : DeT w sb n la f W) (hd : Drew sb W W') : DeT w sb n la f W' := by
  have hb : ∀ g o, n ≠ 0 → la = some ⟨g, o, none⟩ → W'.heap[g]? = W.heap[g]? := fun g o h0 e => hd.2.2.2.2.2 g (h.1.lt g o h0 e) (by
    rcases h.1 with h1 | ⟨g', o', e', h1, _⟩
    · exact absurd h1 h0
    · rw [e'] at e; cases e; have := h.2.2.2; omega)
  refine ⟨?_, isAt_blk h.2.1 (fun g o h0 e => hb g o (by omega) e), ledrew_more h.2.2.1 hd, h.2.2.2⟩
  by_cases h0 : n = 0
  · exact Or.inl h0
  rcases h.1 with h1 | ⟨g, o, e, h1, h2⟩
  · exact absurd h1 h0
  · exact Or.inr ⟨g, o, e, h1, h2.block (hb g o h0 e)⟩
theorem DeS.told {w : World} {sb : Nat} {v : Value} {zs : List (Int × Int)} {W : World} (h : DeS w sb v zs W) : ∃ la c, v = .slice la zs.length c ∧ DeT w sb zs.length la (Ln.fl zs) W ∧ (zs.length ≠ 0 → ∃ g, la = some ⟨g, 0, none⟩ ∧ w.heap.size ≤ g ∧ zs.length ≤ c ∧ ∃ F, W.rowIs g 35 (c * 2) F ∧ ∀ j, j < zs.length * 2 → F j = .int .i64 (Ln.fl zs j)) := by
  obtain ⟨la, c, e, hq, h2⟩ := own_ns h.1
  refine ⟨la, c, e, ⟨hq, ?_, h.2⟩, fun h0 => ?_⟩
  · rcases h2 with ⟨_, h3, _⟩ | ⟨g, rfl, _, h4, F, h5, h6⟩
    · exact Or.inl (by omega)
    · exact Or.inr ⟨g, rfl, fun j hj => by rw [h5.cell (i := j) (by omega), h6 j hj]⟩
  · rcases h2 with ⟨_, h3, _⟩ | h2
    · exact absurd h3 h0
    · exact h2
/-- A script in its block. -/
structure DeR (w : World) (sb n c g : Nat) (F : Nat → Value) (f : Nat → Int) (W : World) : Prop where
  d : Drew sb w W
  lo : sb < w.heap.size
  hg : w.heap.size ≤ g
  hc : n ≤ c
  row : W.rowIs g 35 (c * 2) F
  cells : ∀ j, j < n * 2 → F j = .int .i64 (f j)
theorem DeR.draw {w : World} {sb n c g : Nat} {F : Nat → Value} {f : Nat → Int} {W W' : World} (h : DeR w sb n c g F f W) (hd : Drew sb W W') : DeR w sb n c g F f W' :=
  ⟨ledrew_more h.d hd, h.lo, h.hg, h.hc, h.row.of_block (hd.2.2.2.2.2 g h.row.lt (by have := h.lo; have := h.hg; omega)), h.cells⟩
theorem DeR.bel {w : World} {sb n c g : Nat} {F : Nat → Value} {f : Nat → Int} {W W' : World} (h : DeR w sb n c g F f W) (hb : Below W.heap.size W W') : DeR w sb n c g F f W' :=
  ⟨ledrew_bel h.d hb, h.lo, h.hg, h.hc, nrow_below h.row hb, h.cells⟩
theorem DeR.toT {w : World} {sb n c g : Nat} {F : Nat → Value} {f : Nat → Int} {W : World} (h : DeR w sb n c g F f W) : DeT w sb n (some ⟨g, 0, none⟩) f W :=
  ⟨Or.inr ⟨g, 0, rfl, h.hg, c * 2, F, by have := h.hc; omega, h.row, fun j hj => by rw [Nat.zero_add]; exact h.cells j hj⟩, Or.inr ⟨g, rfl, fun j hj => by rw [h.row.cell (i := j) (by have := h.hc; omega), h.cells j hj]⟩, h.d, h.lo⟩
theorem DeT.spoil {w : World} {sb n k c g : Nat} {f : Nat → Int} {Fv : Nat → Value} {W : World} (x y : Int) (hd : Drew sb w W) (hsb : sb < w.heap.size) (hg : w.heap.size ≤ g) (hc : n ≤ c) (hr : W.rowIs g 35 (c * 2) Fv) (hF : ∀ j, j < n * 2 → Fv j = .int .i64 (f j)) :
    ∃ f', DeT w sb n (some ⟨g, 0, none⟩) f' ((W.setCell ⟨g, k * 2, none⟩ (.int .i64 x)).setCell ⟨g, k * 2 + 1, none⟩ (.int .i64 y)) := by
  have hr2 := (hr.set (k * 2) (.int .i64 x)).set (k * 2 + 1) (.int .i64 y)
  have hv : ∀ j, j < n * 2 → (fun j => if j = k * 2 + 1 then Value.int .i64 y else (fun j => if j = k * 2 then Value.int .i64 x else Fv j) j) j = .int .i64 ((fun j => if j = k * 2 + 1 then y else if j = k * 2 then x else f j) j) := by
    intro j hj
    show (if j = k * 2 + 1 then Value.int .i64 y else if j = k * 2 then Value.int .i64 x else Fv j) = .int .i64 (if j = k * 2 + 1 then y else if j = k * 2 then x else f j)
    by_cases e1 : j = k * 2 + 1
    · rw [if_pos e1, if_pos e1]
    · rw [if_neg e1, if_neg e1]
      by_cases e2 : j = k * 2
      · rw [if_pos e2, if_pos e2]
      · rw [if_neg e2, if_neg e2, hF j hj]
  refine ⟨fun j => if j = k * 2 + 1 then y else if j = k * 2 then x else f j, Or.inr ⟨g, 0, rfl, hg, c * 2, _, by omega, hr2, fun j hj => by rw [Nat.zero_add]; exact hv j hj⟩, Or.inr ⟨g, rfl, fun j hj => ?_⟩, ledrew_set (ledrew_set hd hsb hg) hsb hg, hsb⟩
  rw [hr2.cell (i := j) (by omega)]
  exact congrArg some (hv j hj)
set_option maxRecDepth 100000 in
set_option maxHeartbeats 16000000 in
theorem drawLR_any (a : Option Addr) (len cap : Nat) (w : World) (h : Bytes a len w) (hl : len ≤ 4194304) :
    Calls Tryz.prog 5 #[.slice a len cap] w fun e w' => (∃ (u b : Int) (la : Option Addr) (n c : Nat) (f : Nat → Int), e = .returned (.tuple #[.int .i64 u, .int .i64 b, .slice la n c]) ∧ n ≤ 400 ∧ NqOwn 35 w.heap.size n la f w' ∧ IsAt la (n * 2) f w' ∧ (-1000 ≤ b ∧ b ≤ 1000)) ∧ Below w.heap.size w w' := by
  obtain ⟨i0, hi0, hz0, hz1, hz2⟩ := info_parts leinfo
  have H := Lib.hid h
  clear h
  go_enter Tryz.func5, Tryz.ntmps5
  go_wp2_with fail
  refine (source_any a len cap _ H.out hl).mono ?_
  rintro e w1 ⟨rfl, hs, hb⟩
  obtain ⟨sb, hsb⟩ : ∃ s, s = w.heap.size := ⟨_, rfl⟩
  rw [← hsb] at hs ⊢
  have HB : Hid (Below w.heap.size w w1) := hb
  have HSB : Hid (w.heap.size ≤ sb) := by show _ ≤ _; omega
  obtain ⟨W1, hW1⟩ : ∃ Z, Z = w1.alloc (.cells #[] 35) := ⟨_, rfl⟩
  have HS : Hid (DeS w1 sb (.slice (some ⟨w1.heap.size, 0, none⟩) 0 0) [] W1) := by
    show DeS _ _ _ _ _
    rw [hW1]
    exact ⟨World.ownsRow_made (e := 35) (size := 2) w1 #[] 0 (Nat.le_refl _) (Nat.zero_le _) rfl, ledrew_bel (V := w1) ⟨hs, Chg.refl _ _⟩ (nbel_alloc _ _), hs.lt⟩
  have HW1 := Lib.hid hW1
  obtain ⟨a', len', cap', at_, mix, size, hS, h1, h2, h3, h4, h5, h6⟩ := HS.out.2.1.1
  obtain ⟨s0, s1, s2, s3, _⟩ := hS
  rw [hW1] at s0 s1 s2 s3
  clear h1 h2 h3 h6 hs hb hsb hW1 H
  go_wp2_with fail
  rw [← HW1.out]
  refine (n_any sb (8 + 3 * size) _ HS.out.2.1.1 (by omega)).mono ?_
  rintro e w2 ⟨⟨v, rfl, va, vb, vc⟩, hD⟩
  have vd : v ≤ 400 := by
    have := vb (by omega)
    omega
  replace HS := Lib.hid (HS.out.draw hD)
  clear hD vb vc s0 s1 s2 s3 h4 h5 HW1
  go_wp2_with fail
  refine (one_any sb 40 _ HS.out.2.1.1 (by omega)).mono ?_
  rintro e w3 ⟨⟨bb, rfl⟩, hD⟩
  replace HS := Lib.hid (HS.out.draw hD)
  clear hD
  cases bb
  · obtain ⟨N, hN⟩ : ∃ N : Nat, v = (N : Int) := ⟨v.toNat, by omega⟩
    subst hN
    have hN4 : N ≤ 400 := by omega
    clear va vd
    go_wp2_with fail
    refine (n_any sb 60 _ HS.out.2.1.1 (by omega)).mono ?_
    rintro e w5 ⟨⟨rr, rfl, rra, rrb, rrc⟩, hD⟩
    replace HS := Lib.hid (HS.out.draw hD)
    clear hD
    have rrd := rrb (by omega)
    clear rrb rrc
    obtain ⟨rare, hrare⟩ : ∃ r, r = 3 + rr := ⟨_, rfl⟩
    have hrb : rare ≤ 100 := by omega
    have HR : Hid (3 + rr = rare) := hrare.symm
    have HST := HS
    go_wp2_with fail
    rw [HR.out]
    clear hrare rra rrd HR
    go_loopw [6, 7, 9] (fun lv nv vv wr => ∃ (i : Nat) (zs : List (Int × Int)) (V : Int), i ≤ N ∧ nv = .int .i64 ((N : Int) - (i : Int)) ∧ vv = .int .i64 V ∧ Hid (DeS w1 sb lv zs wr) ∧ Hid (zs.length = i) ∧ (-(7 * (i : Int)) ≤ V ∧ V ≤ 7 * (i : Int))) (fun _ nv _ _ => (intOf nv).toNat)
    case atStart => exact ⟨0, [], 0, Nat.zero_le _, by simp <;> omega, rfl, HST, rfl, by omega⟩
    case round =>
      obtain ⟨i, zs, V, hi, rfl, rfl, hS, hz, hV⟩ := hrel
      clear HST HS
      have HS := hS
      clear hS
      obtain ⟨la, lc, rfl, HTT⟩ := HS.out.told
      have HTT := Lib.hid HTT
      have HLN : Hid (zs.length ≤ 400) := by show zs.length ≤ 400; rw [hz.out]; omega
      by_cases hlt : i < N
      · clear HTT
        have hltz : (0 : Int) < (N : Int) - (i : Int) := by omega
        go_wp2_with fail
        refine (one_any sb rare _ HS.out.2.1.1 (by omega)).mono ?_
        rintro e w6 ⟨⟨bb, rfl⟩, hD⟩
        replace HS := Lib.hid (HS.out.draw hD)
        clear hD
        cases bb
        · go_wp2_with fail
          refine (n_any sb 15 _ HS.out.2.1.1 (by omega)).mono ?_
          rintro e w7 ⟨⟨d, rfl, da, db, dc⟩, hD⟩
          replace HS := Lib.hid (HS.out.draw hD)
          clear hD
          have dd := db (by omega)
          clear db dc
          have HS2 := HS
          clear HS
          have hV2 : -3000 ≤ V ∧ V ≤ 3000 := by omega
          have HO : Hid ((w7.alloc (.cells #[.int .i64 1, .int .i64 (V + d - 7)] 35)).ownsRow w1.heap.size 35 2 (.slice la zs.length lc) zs.length (nvs zs)) := HS2.out.1.alloc _
          have HM := Lib.hid (one_in w7 35 1 (V + d - 7))
          have HSZ : Hid (w1.heap.size ≤ w7.heap.size) := HS2.out.2.1.2.2.2.2.1
          go_wp2_with (at_builtin; refine wpList_append_ns (l := zs) (m := [(1, V + d - 7)]) rfl _ _ 23 rfl 35 i0 (.agg #[.int .i64 0, .int .i64 0]) 16 Tryz.underlying23 hi0 hz0 hz1 hz2 rfl w1.heap.size _ rfl HO.out (some ⟨w7.heap.size, 0, none⟩) 1 rfl HM.out (by have := HLN.out; unfold maxLen; simp; omega) (by have := HLN.out; simp; omega) (by have := HSZ.out; simp; omega) ?_)
          intro v' y3 hown hgrow
          have hown2 : y3.ownsRow w1.heap.size 35 2 v' (zs ++ [(1, V + d - 7)]).length (nvs (zs ++ [(1, V + d - 7)])) := by simpa using hown
          have HP := Lib.hid (HS2.out.push hgrow hown2)
          clear hown hown2 hgrow HS2 HO HM
          go_wp2_with fail
          go_roundw
          case rel => exact ⟨i + 1, zs ++ [(1, V + d - 7)], V + d - 7, by omega, by first | rfl | (simp; omega), rfl, HP, by show _ = _; simp [hz.out], by omega⟩
          case measure => simp [intOf]; omega
        · go_wp2_with fail
          refine (n_any sb 3 _ HS.out.2.1.1 (by omega)).mono ?_
          rintro e w7 ⟨⟨d, rfl, da, db, dc⟩, hD⟩
          replace HS := Lib.hid (HS.out.draw hD)
          clear hD
          have dd := db (by omega)
          clear db dc
          have HS2 := HS
          clear HS
          have HO : Hid ((w7.alloc (.cells #[.int .i64 2, .int .i64 (d)] 35)).ownsRow w1.heap.size 35 2 (.slice la zs.length lc) zs.length (nvs zs)) := HS2.out.1.alloc _
          have HM := Lib.hid (one_in w7 35 2 (d))
          have HSZ : Hid (w1.heap.size ≤ w7.heap.size) := HS2.out.2.1.2.2.2.2.1
          go_wp2_with (at_builtin; refine wpList_append_ns (l := zs) (m := [(2, d)]) rfl _ _ 23 rfl 35 i0 (.agg #[.int .i64 0, .int .i64 0]) 16 Tryz.underlying23 hi0 hz0 hz1 hz2 rfl w1.heap.size _ rfl HO.out (some ⟨w7.heap.size, 0, none⟩) 1 rfl HM.out (by have := HLN.out; unfold maxLen; simp; omega) (by have := HLN.out; simp; omega) (by have := HSZ.out; simp; omega) ?_)
          intro v' y3 hown hgrow
          have hown2 : y3.ownsRow w1.heap.size 35 2 v' (zs ++ [(2, d)]).length (nvs (zs ++ [(2, d)])) := by simpa using hown
          have HP := Lib.hid (HS2.out.push hgrow hown2)
          clear hown hown2 hgrow HS2 HO HM
          go_wp2_with fail
          go_roundw
          case rel => exact ⟨i + 1, zs ++ [(2, d)], V, by omega, by first | rfl | (simp; omega), rfl, HP, by show _ = _; simp [hz.out], by omega⟩
          case measure => simp [intOf]; omega
      · obtain rfl : i = N := by omega
        have hnz : ¬ (0 : Int) < (i : Int) - (i : Int) := by omega
        obtain ⟨n, hn⟩ : ∃ n, n = zs.length := ⟨_, rfl⟩
        have hn4 : n ≤ 400 := by rw [hn]; exact HLN.out
        have HTN := HTT.out
        rw [← hn] at HTN
        have HTT := Lib.hid HTN
        clear HTN HS hz HLN hV
        rw [← hn]
        obtain ⟨f, hf⟩ : ∃ f, f = Ln.fl zs := ⟨_, rfl⟩
        rw [← hf] at HTT
        clear hf hn
        by_cases h0 : n = 0
        · subst h0
          have HT := Lib.hid HTT.out.1
          clear HTT
          go_wp2_with fail
          refine (one_any sb 20 _ HT.out.2.2.1.1 (by omega)).mono ?_
          rintro e w10 ⟨⟨bb, rfl⟩, hD⟩
          replace HT := Lib.hid (HT.out.draw hD)
          clear hD
          cases bb
          · go_wp2_with fail
            refine (n_any sb 251 _ HT.out.2.2.1.1 (by omega)).mono ?_
            rintro e w20 ⟨⟨q, rfl, qa, qb, qc⟩, hD⟩
            replace HT := Lib.hid (HT.out.draw hD)
            clear hD
            have qd := qb (by omega)
            clear qb qc
            go_wp2_with fail
            refine (one_any sb 30 _ HT.out.2.2.1.1 (by omega)).mono ?_
            rintro e w21 ⟨⟨bb, rfl⟩, hD⟩
            replace HT := Lib.hid (HT.out.draw hD)
            clear hD
            cases bb
            · go_wp2_with fail
              refine (n_any sb 6 _ HT.out.2.2.1.1 (by omega)).mono ?_
              rintro e w22 ⟨⟨b6, rfl, b6a, b6b, b6c⟩, hD⟩
              replace HT := Lib.hid (HT.out.draw hD)
              clear hD
              have b6d := b6b (by omega)
              clear b6b b6c
              go_wp2_with fail
              have HBW : Hid (Below w.heap.size w w22) := HB.out.trans (HT.out.2.2.1.2.below HSB.out HB.out.size)
              exact bodyPost_ret (v := .tuple #[.int .i64 q, .int .i64 b6, .slice (la) 0 lc]) (by simp only [results, Tryz.results5]; simp [go_sem]) rfl ⟨⟨q, b6, _, 0, lc, _, rfl, hn4, HT.out.1.low HB.out.size, HT.out.2.1, by omega, by omega⟩, HBW.out⟩
            · go_wp2_with fail
              refine (n_any sb 6 _ HT.out.2.2.1.1 (by omega)).mono ?_
              rintro e w22 ⟨⟨b6, rfl, b6a, b6b, b6c⟩, hD⟩
              replace HT := Lib.hid (HT.out.draw hD)
              clear hD
              have b6d := b6b (by omega)
              clear b6b b6c
              go_wp2_with fail
              have HBW : Hid (Below w.heap.size w w22) := HB.out.trans (HT.out.2.2.1.2.below HSB.out HB.out.size)
              exact bodyPost_ret (v := .tuple #[.int .i64 251, .int .i64 b6, .slice (la) 0 lc]) (by simp only [results, Tryz.results5]; simp [go_sem]) rfl ⟨⟨251, b6, _, 0, lc, _, rfl, hn4, HT.out.1.low HB.out.size, HT.out.2.1, by omega, by omega⟩, HBW.out⟩
          · go_wp2_with fail
            refine (n_any sb 251 _ HT.out.2.2.1.1 (by omega)).mono ?_
            rintro e w20 ⟨⟨q, rfl, qa, qb, qc⟩, hD⟩
            replace HT := Lib.hid (HT.out.draw hD)
            clear hD
            have qd := qb (by omega)
            clear qb qc
            go_wp2_with fail
            refine (one_any sb 30 _ HT.out.2.2.1.1 (by omega)).mono ?_
            rintro e w21 ⟨⟨bb, rfl⟩, hD⟩
            replace HT := Lib.hid (HT.out.draw hD)
            clear hD
            cases bb
            · go_wp2_with fail
              refine (n_any sb 6 _ HT.out.2.2.1.1 (by omega)).mono ?_
              rintro e w22 ⟨⟨b6, rfl, b6a, b6b, b6c⟩, hD⟩
              replace HT := Lib.hid (HT.out.draw hD)
              clear hD
              have b6d := b6b (by omega)
              clear b6b b6c
              go_wp2_with fail
              have HBW : Hid (Below w.heap.size w w22) := HB.out.trans (HT.out.2.2.1.2.below HSB.out HB.out.size)
              exact bodyPost_ret (v := .tuple #[.int .i64 q, .int .i64 b6, .slice (la) 0 lc]) (by simp only [results, Tryz.results5]; simp [go_sem]) rfl ⟨⟨q, b6, _, 0, lc, _, rfl, hn4, HT.out.1.low HB.out.size, HT.out.2.1, by omega, by omega⟩, HBW.out⟩
            · go_wp2_with fail
              refine (n_any sb 6 _ HT.out.2.2.1.1 (by omega)).mono ?_
              rintro e w22 ⟨⟨b6, rfl, b6a, b6b, b6c⟩, hD⟩
              replace HT := Lib.hid (HT.out.draw hD)
              clear hD
              have b6d := b6b (by omega)
              clear b6b b6c
              go_wp2_with fail
              have HBW : Hid (Below w.heap.size w w22) := HB.out.trans (HT.out.2.2.1.2.below HSB.out HB.out.size)
              exact bodyPost_ret (v := .tuple #[.int .i64 251, .int .i64 b6, .slice (la) 0 lc]) (by simp only [results, Tryz.results5]; simp [go_sem]) rfl ⟨⟨251, b6, _, 0, lc, _, rfl, hn4, HT.out.1.low HB.out.size, HT.out.2.1, by omega, by omega⟩, HBW.out⟩
        · have h0z : (0 : Int) < (n : Int) := by omega
          obtain ⟨g, rfl, hg0, hc0, F, hr0, hF0⟩ := HTT.out.2 h0
          have HR : Hid (DeR w1 sb n lc g F f wr) := ⟨HTT.out.1.2.2.1, HTT.out.1.2.2.2, hg0, hc0, hr0, hF0⟩
          clear hg0 hc0 hr0 hF0 HTT
          go_wp2_with fail
          refine (one_any sb 20 _ HR.out.d.1 (by omega)).mono ?_
          rintro e w10 ⟨⟨bb, rfl⟩, hD⟩
          replace HR := Lib.hid (HR.out.draw hD)
          clear hD
          cases bb
          · have HT := Lib.hid HR.out.toT
            clear HR
            go_wp2_with fail
            refine (n_any sb 251 _ HT.out.2.2.1.1 (by omega)).mono ?_
            rintro e w20 ⟨⟨q, rfl, qa, qb, qc⟩, hD⟩
            replace HT := Lib.hid (HT.out.draw hD)
            clear hD
            have qd := qb (by omega)
            clear qb qc
            go_wp2_with fail
            refine (one_any sb 30 _ HT.out.2.2.1.1 (by omega)).mono ?_
            rintro e w21 ⟨⟨bb, rfl⟩, hD⟩
            replace HT := Lib.hid (HT.out.draw hD)
            clear hD
            cases bb
            · go_wp2_with fail
              refine (n_any sb 6 _ HT.out.2.2.1.1 (by omega)).mono ?_
              rintro e w22 ⟨⟨b6, rfl, b6a, b6b, b6c⟩, hD⟩
              replace HT := Lib.hid (HT.out.draw hD)
              clear hD
              have b6d := b6b (by omega)
              clear b6b b6c
              go_wp2_with fail
              have HBW : Hid (Below w.heap.size w w22) := HB.out.trans (HT.out.2.2.1.2.below HSB.out HB.out.size)
              exact bodyPost_ret (v := .tuple #[.int .i64 q, .int .i64 b6, .slice (some ⟨g, 0, none⟩) n lc]) (by simp only [results, Tryz.results5]; simp [go_sem]) rfl ⟨⟨q, b6, _, n, lc, _, rfl, hn4, HT.out.1.low HB.out.size, HT.out.2.1, by omega, by omega⟩, HBW.out⟩
            · go_wp2_with fail
              refine (n_any sb 6 _ HT.out.2.2.1.1 (by omega)).mono ?_
              rintro e w22 ⟨⟨b6, rfl, b6a, b6b, b6c⟩, hD⟩
              replace HT := Lib.hid (HT.out.draw hD)
              clear hD
              have b6d := b6b (by omega)
              clear b6b b6c
              go_wp2_with fail
              have HBW : Hid (Below w.heap.size w w22) := HB.out.trans (HT.out.2.2.1.2.below HSB.out HB.out.size)
              exact bodyPost_ret (v := .tuple #[.int .i64 251, .int .i64 b6, .slice (some ⟨g, 0, none⟩) n lc]) (by simp only [results, Tryz.results5]; simp [go_sem]) rfl ⟨⟨251, b6, _, n, lc, _, rfl, hn4, HT.out.1.low HB.out.size, HT.out.2.1, by omega, by omega⟩, HBW.out⟩
          · go_wp2_with fail
            refine (n_any sb (n : Int) _ HR.out.d.1 (by omega)).mono ?_
            rintro e w11 ⟨⟨k, rfl, ka, kb, kc⟩, hD⟩
            replace HR := Lib.hid (HR.out.draw hD)
            clear hD
            have hkn : 0 ≤ k ∧ k < (n : Int) := by
              by_cases q : 1 < (n : Int)
              · have := kb q; omega
              · have := kc (by omega); omega
            obtain ⟨m, rfl⟩ : ∃ m : Nat, k = (m : Int) := ⟨k.toNat, by omega⟩
            have hmn : m < n := by omega
            clear kb kc ka hkn
            go_wp2_with fail
            refine (n_any sb 4 _ HR.out.d.1 (by omega)).mono ?_
            rintro e w12 ⟨⟨kd, rfl, kda, kdb, kdc⟩, hD⟩
            replace HR := Lib.hid (HR.out.draw hD)
            clear hD
            have kdd := kdb (by omega)
            clear kdb kdc
            obtain ⟨V3, hV3⟩ : ∃ Z, Z = w12.alloc (.cells #[.int .i64 3, .int .i64 (-1), .int .i64 1000001] 2) := ⟨_, rfl⟩
            have HX : Hid (V3.rowIs w12.heap.size 2 3 (rowN [.int .i64 3, .int .i64 (-1), .int .i64 1000001])) := by show World.rowIs _ _ _ _ _; rw [hV3]; exact rowN_alloc w12 [.int .i64 3, .int .i64 (-1), .int .i64 1000001] _
            have HR3 : Hid (DeR w1 sb n lc g F f V3) := by show DeR _ _ _ _ _ _ _ _; rw [hV3]; exact HR.out.bel (nbel_alloc _ _)
            have HNE : Hid (w12.heap.size ≠ sb) := by have := HR.out.d.1.lt; show _ ≠ _; omega
            have HV3 := Lib.hid hV3
            clear hV3 HR
            go_wp2_with fail
            rw [← HV3.out]
            clear HV3
            refine (n_any sb 3 _ HR3.out.d.1 (by omega)).mono ?_
            rintro e w13 ⟨⟨j, rfl, ja, jb, jc⟩, hD⟩
            have jd := jb (by omega)
            have HR := Lib.hid (HR3.out.draw hD)
            have hr2 := HX.out.of_block (hD.2.2.2.2.2 _ HX.out.lt HNE.out)
            obtain ⟨⟨x0, x1, x2⟩, _⟩ := rowN3 hr2
            have y0 := HR.out.row.cell (i := m * 2) (by have := HR.out.hc; omega)
            have y1 := HR.out.row.cell (i := m * 2 + 1) (by have := HR.out.hc; omega)
            rw [HR.out.cells _ (by omega)] at y0 y1
            have z0 := HR.out.row.frozen (m * 2)
            have z1 := HR.out.row.frozen (m * 2 + 1)
            have l0 := HR.out.row.lt
            clear hD jb jc hr2 HR3 HX HNE
            rcases (show j = 0 ∨ j = 1 ∨ j = 2 by omega) with rfl | rfl | rfl
            · clear ja jd
              obtain ⟨V4, hV4⟩ : ∃ Z, Z = (w13.setCell ⟨g, m * 2, none⟩ (.int .i64 kd)).setCell ⟨g, m * 2 + 1, none⟩ (.int .i64 (3)) := ⟨_, rfl⟩
              obtain ⟨f4, hf4⟩ := DeT.spoil kd (3) HR.out.d HR.out.lo HR.out.hg HR.out.hc HR.out.row HR.out.cells
              rw [← hV4] at hf4
              have HT := Lib.hid hf4
              have HV4 := Lib.hid hV4
              clear hV4 hf4
              go_wp2_with fail
              rw [← HV4.out]
              clear HV4 y0 y1 z0 z1 l0 x0 x1 x2 HR
              refine (n_any sb 251 _ HT.out.2.2.1.1 (by omega)).mono ?_
              rintro e w20 ⟨⟨q, rfl, qa, qb, qc⟩, hD⟩
              replace HT := Lib.hid (HT.out.draw hD)
              clear hD
              have qd := qb (by omega)
              clear qb qc
              go_wp2_with fail
              refine (one_any sb 30 _ HT.out.2.2.1.1 (by omega)).mono ?_
              rintro e w21 ⟨⟨bb, rfl⟩, hD⟩
              replace HT := Lib.hid (HT.out.draw hD)
              clear hD
              cases bb
              · go_wp2_with fail
                refine (n_any sb 6 _ HT.out.2.2.1.1 (by omega)).mono ?_
                rintro e w22 ⟨⟨b6, rfl, b6a, b6b, b6c⟩, hD⟩
                replace HT := Lib.hid (HT.out.draw hD)
                clear hD
                have b6d := b6b (by omega)
                clear b6b b6c
                go_wp2_with fail
                have HBW : Hid (Below w.heap.size w w22) := HB.out.trans (HT.out.2.2.1.2.below HSB.out HB.out.size)
                exact bodyPost_ret (v := .tuple #[.int .i64 q, .int .i64 b6, .slice (some ⟨g, 0, none⟩) n lc]) (by simp only [results, Tryz.results5]; simp [go_sem]) rfl ⟨⟨q, b6, _, n, lc, _, rfl, hn4, HT.out.1.low HB.out.size, HT.out.2.1, by omega, by omega⟩, HBW.out⟩
              · go_wp2_with fail
                refine (n_any sb 6 _ HT.out.2.2.1.1 (by omega)).mono ?_
                rintro e w22 ⟨⟨b6, rfl, b6a, b6b, b6c⟩, hD⟩
                replace HT := Lib.hid (HT.out.draw hD)
                clear hD
                have b6d := b6b (by omega)
                clear b6b b6c
                go_wp2_with fail
                have HBW : Hid (Below w.heap.size w w22) := HB.out.trans (HT.out.2.2.1.2.below HSB.out HB.out.size)
                exact bodyPost_ret (v := .tuple #[.int .i64 251, .int .i64 b6, .slice (some ⟨g, 0, none⟩) n lc]) (by simp only [results, Tryz.results5]; simp [go_sem]) rfl ⟨⟨251, b6, _, n, lc, _, rfl, hn4, HT.out.1.low HB.out.size, HT.out.2.1, by omega, by omega⟩, HBW.out⟩
            · clear ja jd
              obtain ⟨V4, hV4⟩ : ∃ Z, Z = (w13.setCell ⟨g, m * 2, none⟩ (.int .i64 kd)).setCell ⟨g, m * 2 + 1, none⟩ (.int .i64 (-1)) := ⟨_, rfl⟩
              obtain ⟨f4, hf4⟩ := DeT.spoil kd (-1) HR.out.d HR.out.lo HR.out.hg HR.out.hc HR.out.row HR.out.cells
              rw [← hV4] at hf4
              have HT := Lib.hid hf4
              have HV4 := Lib.hid hV4
              clear hV4 hf4
              go_wp2_with fail
              rw [← HV4.out]
              clear HV4 y0 y1 z0 z1 l0 x0 x1 x2 HR
              refine (n_any sb 251 _ HT.out.2.2.1.1 (by omega)).mono ?_
              rintro e w20 ⟨⟨q, rfl, qa, qb, qc⟩, hD⟩
              replace HT := Lib.hid (HT.out.draw hD)
              clear hD
              have qd := qb (by omega)
              clear qb qc
              go_wp2_with fail
              refine (one_any sb 30 _ HT.out.2.2.1.1 (by omega)).mono ?_
              rintro e w21 ⟨⟨bb, rfl⟩, hD⟩
              replace HT := Lib.hid (HT.out.draw hD)
              clear hD
              cases bb
              · go_wp2_with fail
                refine (n_any sb 6 _ HT.out.2.2.1.1 (by omega)).mono ?_
                rintro e w22 ⟨⟨b6, rfl, b6a, b6b, b6c⟩, hD⟩
                replace HT := Lib.hid (HT.out.draw hD)
                clear hD
                have b6d := b6b (by omega)
                clear b6b b6c
                go_wp2_with fail
                have HBW : Hid (Below w.heap.size w w22) := HB.out.trans (HT.out.2.2.1.2.below HSB.out HB.out.size)
                exact bodyPost_ret (v := .tuple #[.int .i64 q, .int .i64 b6, .slice (some ⟨g, 0, none⟩) n lc]) (by simp only [results, Tryz.results5]; simp [go_sem]) rfl ⟨⟨q, b6, _, n, lc, _, rfl, hn4, HT.out.1.low HB.out.size, HT.out.2.1, by omega, by omega⟩, HBW.out⟩
              · go_wp2_with fail
                refine (n_any sb 6 _ HT.out.2.2.1.1 (by omega)).mono ?_
                rintro e w22 ⟨⟨b6, rfl, b6a, b6b, b6c⟩, hD⟩
                replace HT := Lib.hid (HT.out.draw hD)
                clear hD
                have b6d := b6b (by omega)
                clear b6b b6c
                go_wp2_with fail
                have HBW : Hid (Below w.heap.size w w22) := HB.out.trans (HT.out.2.2.1.2.below HSB.out HB.out.size)
                exact bodyPost_ret (v := .tuple #[.int .i64 251, .int .i64 b6, .slice (some ⟨g, 0, none⟩) n lc]) (by simp only [results, Tryz.results5]; simp [go_sem]) rfl ⟨⟨251, b6, _, n, lc, _, rfl, hn4, HT.out.1.low HB.out.size, HT.out.2.1, by omega, by omega⟩, HBW.out⟩
            · clear ja jd
              obtain ⟨V4, hV4⟩ : ∃ Z, Z = (w13.setCell ⟨g, m * 2, none⟩ (.int .i64 kd)).setCell ⟨g, m * 2 + 1, none⟩ (.int .i64 (1000001)) := ⟨_, rfl⟩
              obtain ⟨f4, hf4⟩ := DeT.spoil kd (1000001) HR.out.d HR.out.lo HR.out.hg HR.out.hc HR.out.row HR.out.cells
              rw [← hV4] at hf4
              have HT := Lib.hid hf4
              have HV4 := Lib.hid hV4
              clear hV4 hf4
              go_wp2_with fail
              rw [← HV4.out]
              clear HV4 y0 y1 z0 z1 l0 x0 x1 x2 HR
              refine (n_any sb 251 _ HT.out.2.2.1.1 (by omega)).mono ?_
              rintro e w20 ⟨⟨q, rfl, qa, qb, qc⟩, hD⟩
              replace HT := Lib.hid (HT.out.draw hD)
              clear hD
              have qd := qb (by omega)
              clear qb qc
              go_wp2_with fail
              refine (one_any sb 30 _ HT.out.2.2.1.1 (by omega)).mono ?_
              rintro e w21 ⟨⟨bb, rfl⟩, hD⟩
              replace HT := Lib.hid (HT.out.draw hD)
              clear hD
              cases bb
              · go_wp2_with fail
                refine (n_any sb 6 _ HT.out.2.2.1.1 (by omega)).mono ?_
                rintro e w22 ⟨⟨b6, rfl, b6a, b6b, b6c⟩, hD⟩
                replace HT := Lib.hid (HT.out.draw hD)
                clear hD
                have b6d := b6b (by omega)
                clear b6b b6c
                go_wp2_with fail
                have HBW : Hid (Below w.heap.size w w22) := HB.out.trans (HT.out.2.2.1.2.below HSB.out HB.out.size)
                exact bodyPost_ret (v := .tuple #[.int .i64 q, .int .i64 b6, .slice (some ⟨g, 0, none⟩) n lc]) (by simp only [results, Tryz.results5]; simp [go_sem]) rfl ⟨⟨q, b6, _, n, lc, _, rfl, hn4, HT.out.1.low HB.out.size, HT.out.2.1, by omega, by omega⟩, HBW.out⟩
              · go_wp2_with fail
                refine (n_any sb 6 _ HT.out.2.2.1.1 (by omega)).mono ?_
                rintro e w22 ⟨⟨b6, rfl, b6a, b6b, b6c⟩, hD⟩
                replace HT := Lib.hid (HT.out.draw hD)
                clear hD
                have b6d := b6b (by omega)
                clear b6b b6c
                go_wp2_with fail
                have HBW : Hid (Below w.heap.size w w22) := HB.out.trans (HT.out.2.2.1.2.below HSB.out HB.out.size)
                exact bodyPost_ret (v := .tuple #[.int .i64 251, .int .i64 b6, .slice (some ⟨g, 0, none⟩) n lc]) (by simp only [results, Tryz.results5]; simp [go_sem]) rfl ⟨⟨251, b6, _, n, lc, _, rfl, hn4, HT.out.1.low HB.out.size, HT.out.2.1, by omega, by omega⟩, HBW.out⟩
  · go_wp2_with fail
    refine (n_any sb 3 _ HS.out.2.1.1 (by omega)).mono ?_
    rintro e w4 ⟨⟨u, rfl, ua, ub, uc⟩, hD⟩
    have ud := ub (by omega)
    replace HS := Lib.hid (HS.out.draw hD)
    obtain ⟨N, hN⟩ : ∃ N : Nat, 199 + u = (N : Int) := ⟨(199 + u).toNat, by omega⟩
    have hN4 : N ≤ 400 := by omega
    have huz : u = (N : Int) - 199 := by omega
    subst huz
    have hNu : (199 : Int) + ((N : Int) - 199) = (N : Int) := by omega
    have HNu := Lib.hid hNu
    clear hD ub uc hN va vd ua ud hNu
    go_wp2_with fail
    rw [HNu.out]
    clear HNu
    refine (n_any sb 60 _ HS.out.2.1.1 (by omega)).mono ?_
    rintro e w5 ⟨⟨rr, rfl, rra, rrb, rrc⟩, hD⟩
    replace HS := Lib.hid (HS.out.draw hD)
    clear hD
    have rrd := rrb (by omega)
    clear rrb rrc
    obtain ⟨rare, hrare⟩ : ∃ r, r = 3 + rr := ⟨_, rfl⟩
    have hrb : rare ≤ 100 := by omega
    have HR : Hid (3 + rr = rare) := hrare.symm
    have HST := HS
    go_wp2_with fail
    rw [HR.out]
    clear hrare rra rrd HR
    go_loopw [6, 7, 9] (fun lv nv vv wr => ∃ (i : Nat) (zs : List (Int × Int)) (V : Int), i ≤ N ∧ nv = .int .i64 ((N : Int) - (i : Int)) ∧ vv = .int .i64 V ∧ Hid (DeS w1 sb lv zs wr) ∧ Hid (zs.length = i) ∧ (-(7 * (i : Int)) ≤ V ∧ V ≤ 7 * (i : Int))) (fun _ nv _ _ => (intOf nv).toNat)
    case atStart => exact ⟨0, [], 0, Nat.zero_le _, by simp <;> omega, rfl, HST, rfl, by omega⟩
    case round =>
      obtain ⟨i, zs, V, hi, rfl, rfl, hS, hz, hV⟩ := hrel
      clear HST HS
      have HS := hS
      clear hS
      obtain ⟨la, lc, rfl, HTT⟩ := HS.out.told
      have HTT := Lib.hid HTT
      have HLN : Hid (zs.length ≤ 400) := by show zs.length ≤ 400; rw [hz.out]; omega
      by_cases hlt : i < N
      · clear HTT
        have hltz : (0 : Int) < (N : Int) - (i : Int) := by omega
        go_wp2_with fail
        refine (one_any sb rare _ HS.out.2.1.1 (by omega)).mono ?_
        rintro e w6 ⟨⟨bb, rfl⟩, hD⟩
        replace HS := Lib.hid (HS.out.draw hD)
        clear hD
        cases bb
        · go_wp2_with fail
          refine (n_any sb 15 _ HS.out.2.1.1 (by omega)).mono ?_
          rintro e w7 ⟨⟨d, rfl, da, db, dc⟩, hD⟩
          replace HS := Lib.hid (HS.out.draw hD)
          clear hD
          have dd := db (by omega)
          clear db dc
          have HS2 := HS
          clear HS
          have hV2 : -3000 ≤ V ∧ V ≤ 3000 := by omega
          have HO : Hid ((w7.alloc (.cells #[.int .i64 1, .int .i64 (V + d - 7)] 35)).ownsRow w1.heap.size 35 2 (.slice la zs.length lc) zs.length (nvs zs)) := HS2.out.1.alloc _
          have HM := Lib.hid (one_in w7 35 1 (V + d - 7))
          have HSZ : Hid (w1.heap.size ≤ w7.heap.size) := HS2.out.2.1.2.2.2.2.1
          go_wp2_with (at_builtin; refine wpList_append_ns (l := zs) (m := [(1, V + d - 7)]) rfl _ _ 23 rfl 35 i0 (.agg #[.int .i64 0, .int .i64 0]) 16 Tryz.underlying23 hi0 hz0 hz1 hz2 rfl w1.heap.size _ rfl HO.out (some ⟨w7.heap.size, 0, none⟩) 1 rfl HM.out (by have := HLN.out; unfold maxLen; simp; omega) (by have := HLN.out; simp; omega) (by have := HSZ.out; simp; omega) ?_)
          intro v' y3 hown hgrow
          have hown2 : y3.ownsRow w1.heap.size 35 2 v' (zs ++ [(1, V + d - 7)]).length (nvs (zs ++ [(1, V + d - 7)])) := by simpa using hown
          have HP := Lib.hid (HS2.out.push hgrow hown2)
          clear hown hown2 hgrow HS2 HO HM
          go_wp2_with fail
          go_roundw
          case rel => exact ⟨i + 1, zs ++ [(1, V + d - 7)], V + d - 7, by omega, by first | rfl | (simp; omega), rfl, HP, by show _ = _; simp [hz.out], by omega⟩
          case measure => simp [intOf]; omega
        · go_wp2_with fail
          refine (n_any sb 3 _ HS.out.2.1.1 (by omega)).mono ?_
          rintro e w7 ⟨⟨d, rfl, da, db, dc⟩, hD⟩
          replace HS := Lib.hid (HS.out.draw hD)
          clear hD
          have dd := db (by omega)
          clear db dc
          have HS2 := HS
          clear HS
          have HO : Hid ((w7.alloc (.cells #[.int .i64 2, .int .i64 (d)] 35)).ownsRow w1.heap.size 35 2 (.slice la zs.length lc) zs.length (nvs zs)) := HS2.out.1.alloc _
          have HM := Lib.hid (one_in w7 35 2 (d))
          have HSZ : Hid (w1.heap.size ≤ w7.heap.size) := HS2.out.2.1.2.2.2.2.1
          go_wp2_with (at_builtin; refine wpList_append_ns (l := zs) (m := [(2, d)]) rfl _ _ 23 rfl 35 i0 (.agg #[.int .i64 0, .int .i64 0]) 16 Tryz.underlying23 hi0 hz0 hz1 hz2 rfl w1.heap.size _ rfl HO.out (some ⟨w7.heap.size, 0, none⟩) 1 rfl HM.out (by have := HLN.out; unfold maxLen; simp; omega) (by have := HLN.out; simp; omega) (by have := HSZ.out; simp; omega) ?_)
          intro v' y3 hown hgrow
          have hown2 : y3.ownsRow w1.heap.size 35 2 v' (zs ++ [(2, d)]).length (nvs (zs ++ [(2, d)])) := by simpa using hown
          have HP := Lib.hid (HS2.out.push hgrow hown2)
          clear hown hown2 hgrow HS2 HO HM
          go_wp2_with fail
          go_roundw
          case rel => exact ⟨i + 1, zs ++ [(2, d)], V, by omega, by first | rfl | (simp; omega), rfl, HP, by show _ = _; simp [hz.out], by omega⟩
          case measure => simp [intOf]; omega
      · obtain rfl : i = N := by omega
        have hnz : ¬ (0 : Int) < (i : Int) - (i : Int) := by omega
        obtain ⟨n, hn⟩ : ∃ n, n = zs.length := ⟨_, rfl⟩
        have hn4 : n ≤ 400 := by rw [hn]; exact HLN.out
        have HTN := HTT.out
        rw [← hn] at HTN
        have HTT := Lib.hid HTN
        clear HTN HS hz HLN hV
        rw [← hn]
        obtain ⟨f, hf⟩ : ∃ f, f = Ln.fl zs := ⟨_, rfl⟩
        rw [← hf] at HTT
        clear hf hn
        by_cases h0 : n = 0
        · subst h0
          have HT := Lib.hid HTT.out.1
          clear HTT
          go_wp2_with fail
          refine (one_any sb 20 _ HT.out.2.2.1.1 (by omega)).mono ?_
          rintro e w10 ⟨⟨bb, rfl⟩, hD⟩
          replace HT := Lib.hid (HT.out.draw hD)
          clear hD
          cases bb
          · go_wp2_with fail
            refine (n_any sb 251 _ HT.out.2.2.1.1 (by omega)).mono ?_
            rintro e w20 ⟨⟨q, rfl, qa, qb, qc⟩, hD⟩
            replace HT := Lib.hid (HT.out.draw hD)
            clear hD
            have qd := qb (by omega)
            clear qb qc
            go_wp2_with fail
            refine (one_any sb 30 _ HT.out.2.2.1.1 (by omega)).mono ?_
            rintro e w21 ⟨⟨bb, rfl⟩, hD⟩
            replace HT := Lib.hid (HT.out.draw hD)
            clear hD
            cases bb
            · go_wp2_with fail
              refine (n_any sb 6 _ HT.out.2.2.1.1 (by omega)).mono ?_
              rintro e w22 ⟨⟨b6, rfl, b6a, b6b, b6c⟩, hD⟩
              replace HT := Lib.hid (HT.out.draw hD)
              clear hD
              have b6d := b6b (by omega)
              clear b6b b6c
              go_wp2_with fail
              have HBW : Hid (Below w.heap.size w w22) := HB.out.trans (HT.out.2.2.1.2.below HSB.out HB.out.size)
              exact bodyPost_ret (v := .tuple #[.int .i64 q, .int .i64 b6, .slice (la) 0 lc]) (by simp only [results, Tryz.results5]; simp [go_sem]) rfl ⟨⟨q, b6, _, 0, lc, _, rfl, hn4, HT.out.1.low HB.out.size, HT.out.2.1, by omega, by omega⟩, HBW.out⟩
            · go_wp2_with fail
              refine (n_any sb 6 _ HT.out.2.2.1.1 (by omega)).mono ?_
              rintro e w22 ⟨⟨b6, rfl, b6a, b6b, b6c⟩, hD⟩
              replace HT := Lib.hid (HT.out.draw hD)
              clear hD
              have b6d := b6b (by omega)
              clear b6b b6c
              go_wp2_with fail
              have HBW : Hid (Below w.heap.size w w22) := HB.out.trans (HT.out.2.2.1.2.below HSB.out HB.out.size)
              exact bodyPost_ret (v := .tuple #[.int .i64 251, .int .i64 b6, .slice (la) 0 lc]) (by simp only [results, Tryz.results5]; simp [go_sem]) rfl ⟨⟨251, b6, _, 0, lc, _, rfl, hn4, HT.out.1.low HB.out.size, HT.out.2.1, by omega, by omega⟩, HBW.out⟩
          · go_wp2_with fail
            refine (n_any sb 251 _ HT.out.2.2.1.1 (by omega)).mono ?_
            rintro e w20 ⟨⟨q, rfl, qa, qb, qc⟩, hD⟩
            replace HT := Lib.hid (HT.out.draw hD)
            clear hD
            have qd := qb (by omega)
            clear qb qc
            go_wp2_with fail
            refine (one_any sb 30 _ HT.out.2.2.1.1 (by omega)).mono ?_
            rintro e w21 ⟨⟨bb, rfl⟩, hD⟩
            replace HT := Lib.hid (HT.out.draw hD)
            clear hD
            cases bb
            · go_wp2_with fail
              refine (n_any sb 6 _ HT.out.2.2.1.1 (by omega)).mono ?_
              rintro e w22 ⟨⟨b6, rfl, b6a, b6b, b6c⟩, hD⟩
              replace HT := Lib.hid (HT.out.draw hD)
              clear hD
              have b6d := b6b (by omega)
              clear b6b b6c
              go_wp2_with fail
              have HBW : Hid (Below w.heap.size w w22) := HB.out.trans (HT.out.2.2.1.2.below HSB.out HB.out.size)
              exact bodyPost_ret (v := .tuple #[.int .i64 q, .int .i64 b6, .slice (la) 0 lc]) (by simp only [results, Tryz.results5]; simp [go_sem]) rfl ⟨⟨q, b6, _, 0, lc, _, rfl, hn4, HT.out.1.low HB.out.size, HT.out.2.1, by omega, by omega⟩, HBW.out⟩
            · go_wp2_with fail
              refine (n_any sb 6 _ HT.out.2.2.1.1 (by omega)).mono ?_
              rintro e w22 ⟨⟨b6, rfl, b6a, b6b, b6c⟩, hD⟩
              replace HT := Lib.hid (HT.out.draw hD)
              clear hD
              have b6d := b6b (by omega)
              clear b6b b6c
              go_wp2_with fail
              have HBW : Hid (Below w.heap.size w w22) := HB.out.trans (HT.out.2.2.1.2.below HSB.out HB.out.size)
              exact bodyPost_ret (v := .tuple #[.int .i64 251, .int .i64 b6, .slice (la) 0 lc]) (by simp only [results, Tryz.results5]; simp [go_sem]) rfl ⟨⟨251, b6, _, 0, lc, _, rfl, hn4, HT.out.1.low HB.out.size, HT.out.2.1, by omega, by omega⟩, HBW.out⟩
        · have h0z : (0 : Int) < (n : Int) := by omega
          obtain ⟨g, rfl, hg0, hc0, F, hr0, hF0⟩ := HTT.out.2 h0
          have HR : Hid (DeR w1 sb n lc g F f wr) := ⟨HTT.out.1.2.2.1, HTT.out.1.2.2.2, hg0, hc0, hr0, hF0⟩
          clear hg0 hc0 hr0 hF0 HTT
          go_wp2_with fail
          refine (one_any sb 20 _ HR.out.d.1 (by omega)).mono ?_
          rintro e w10 ⟨⟨bb, rfl⟩, hD⟩
          replace HR := Lib.hid (HR.out.draw hD)
          clear hD
          cases bb
          · have HT := Lib.hid HR.out.toT
            clear HR
            go_wp2_with fail
            refine (n_any sb 251 _ HT.out.2.2.1.1 (by omega)).mono ?_
            rintro e w20 ⟨⟨q, rfl, qa, qb, qc⟩, hD⟩
            replace HT := Lib.hid (HT.out.draw hD)
            clear hD
            have qd := qb (by omega)
            clear qb qc
            go_wp2_with fail
            refine (one_any sb 30 _ HT.out.2.2.1.1 (by omega)).mono ?_
            rintro e w21 ⟨⟨bb, rfl⟩, hD⟩
            replace HT := Lib.hid (HT.out.draw hD)
            clear hD
            cases bb
            · go_wp2_with fail
              refine (n_any sb 6 _ HT.out.2.2.1.1 (by omega)).mono ?_
              rintro e w22 ⟨⟨b6, rfl, b6a, b6b, b6c⟩, hD⟩
              replace HT := Lib.hid (HT.out.draw hD)
              clear hD
              have b6d := b6b (by omega)
              clear b6b b6c
              go_wp2_with fail
              have HBW : Hid (Below w.heap.size w w22) := HB.out.trans (HT.out.2.2.1.2.below HSB.out HB.out.size)
              exact bodyPost_ret (v := .tuple #[.int .i64 q, .int .i64 b6, .slice (some ⟨g, 0, none⟩) n lc]) (by simp only [results, Tryz.results5]; simp [go_sem]) rfl ⟨⟨q, b6, _, n, lc, _, rfl, hn4, HT.out.1.low HB.out.size, HT.out.2.1, by omega, by omega⟩, HBW.out⟩
            · go_wp2_with fail
              refine (n_any sb 6 _ HT.out.2.2.1.1 (by omega)).mono ?_
              rintro e w22 ⟨⟨b6, rfl, b6a, b6b, b6c⟩, hD⟩
              replace HT := Lib.hid (HT.out.draw hD)
              clear hD
              have b6d := b6b (by omega)
              clear b6b b6c
              go_wp2_with fail
              have HBW : Hid (Below w.heap.size w w22) := HB.out.trans (HT.out.2.2.1.2.below HSB.out HB.out.size)
              exact bodyPost_ret (v := .tuple #[.int .i64 251, .int .i64 b6, .slice (some ⟨g, 0, none⟩) n lc]) (by simp only [results, Tryz.results5]; simp [go_sem]) rfl ⟨⟨251, b6, _, n, lc, _, rfl, hn4, HT.out.1.low HB.out.size, HT.out.2.1, by omega, by omega⟩, HBW.out⟩
          · go_wp2_with fail
            refine (n_any sb (n : Int) _ HR.out.d.1 (by omega)).mono ?_
            rintro e w11 ⟨⟨k, rfl, ka, kb, kc⟩, hD⟩
            replace HR := Lib.hid (HR.out.draw hD)
            clear hD
            have hkn : 0 ≤ k ∧ k < (n : Int) := by
              by_cases q : 1 < (n : Int)
              · have := kb q; omega
              · have := kc (by omega); omega
            obtain ⟨m, rfl⟩ : ∃ m : Nat, k = (m : Int) := ⟨k.toNat, by omega⟩
            have hmn : m < n := by omega
            clear kb kc ka hkn
            go_wp2_with fail
            refine (n_any sb 4 _ HR.out.d.1 (by omega)).mono ?_
            rintro e w12 ⟨⟨kd, rfl, kda, kdb, kdc⟩, hD⟩
            replace HR := Lib.hid (HR.out.draw hD)
            clear hD
            have kdd := kdb (by omega)
            clear kdb kdc
            obtain ⟨V3, hV3⟩ : ∃ Z, Z = w12.alloc (.cells #[.int .i64 3, .int .i64 (-1), .int .i64 1000001] 2) := ⟨_, rfl⟩
            have HX : Hid (V3.rowIs w12.heap.size 2 3 (rowN [.int .i64 3, .int .i64 (-1), .int .i64 1000001])) := by show World.rowIs _ _ _ _ _; rw [hV3]; exact rowN_alloc w12 [.int .i64 3, .int .i64 (-1), .int .i64 1000001] _
            have HR3 : Hid (DeR w1 sb n lc g F f V3) := by show DeR _ _ _ _ _ _ _ _; rw [hV3]; exact HR.out.bel (nbel_alloc _ _)
            have HNE : Hid (w12.heap.size ≠ sb) := by have := HR.out.d.1.lt; show _ ≠ _; omega
            have HV3 := Lib.hid hV3
            clear hV3 HR
            go_wp2_with fail
            rw [← HV3.out]
            clear HV3
            refine (n_any sb 3 _ HR3.out.d.1 (by omega)).mono ?_
            rintro e w13 ⟨⟨j, rfl, ja, jb, jc⟩, hD⟩
            have jd := jb (by omega)
            have HR := Lib.hid (HR3.out.draw hD)
            have hr2 := HX.out.of_block (hD.2.2.2.2.2 _ HX.out.lt HNE.out)
            obtain ⟨⟨x0, x1, x2⟩, _⟩ := rowN3 hr2
            have y0 := HR.out.row.cell (i := m * 2) (by have := HR.out.hc; omega)
            have y1 := HR.out.row.cell (i := m * 2 + 1) (by have := HR.out.hc; omega)
            rw [HR.out.cells _ (by omega)] at y0 y1
            have z0 := HR.out.row.frozen (m * 2)
            have z1 := HR.out.row.frozen (m * 2 + 1)
            have l0 := HR.out.row.lt
            clear hD jb jc hr2 HR3 HX HNE
            rcases (show j = 0 ∨ j = 1 ∨ j = 2 by omega) with rfl | rfl | rfl
            · clear ja jd
              obtain ⟨V4, hV4⟩ : ∃ Z, Z = (w13.setCell ⟨g, m * 2, none⟩ (.int .i64 kd)).setCell ⟨g, m * 2 + 1, none⟩ (.int .i64 (3)) := ⟨_, rfl⟩
              obtain ⟨f4, hf4⟩ := DeT.spoil kd (3) HR.out.d HR.out.lo HR.out.hg HR.out.hc HR.out.row HR.out.cells
              rw [← hV4] at hf4
              have HT := Lib.hid hf4
              have HV4 := Lib.hid hV4
              clear hV4 hf4
              go_wp2_with fail
              rw [← HV4.out]
              clear HV4 y0 y1 z0 z1 l0 x0 x1 x2 HR
              refine (n_any sb 251 _ HT.out.2.2.1.1 (by omega)).mono ?_
              rintro e w20 ⟨⟨q, rfl, qa, qb, qc⟩, hD⟩
              replace HT := Lib.hid (HT.out.draw hD)
              clear hD
              have qd := qb (by omega)
              clear qb qc
              go_wp2_with fail
              refine (one_any sb 30 _ HT.out.2.2.1.1 (by omega)).mono ?_
              rintro e w21 ⟨⟨bb, rfl⟩, hD⟩
              replace HT := Lib.hid (HT.out.draw hD)
              clear hD
              cases bb
              · go_wp2_with fail
                refine (n_any sb 6 _ HT.out.2.2.1.1 (by omega)).mono ?_
                rintro e w22 ⟨⟨b6, rfl, b6a, b6b, b6c⟩, hD⟩
                replace HT := Lib.hid (HT.out.draw hD)
                clear hD
                have b6d := b6b (by omega)
                clear b6b b6c
                go_wp2_with fail
                have HBW : Hid (Below w.heap.size w w22) := HB.out.trans (HT.out.2.2.1.2.below HSB.out HB.out.size)
                exact bodyPost_ret (v := .tuple #[.int .i64 q, .int .i64 b6, .slice (some ⟨g, 0, none⟩) n lc]) (by simp only [results, Tryz.results5]; simp [go_sem]) rfl ⟨⟨q, b6, _, n, lc, _, rfl, hn4, HT.out.1.low HB.out.size, HT.out.2.1, by omega, by omega⟩, HBW.out⟩
              · go_wp2_with fail
                refine (n_any sb 6 _ HT.out.2.2.1.1 (by omega)).mono ?_
                rintro e w22 ⟨⟨b6, rfl, b6a, b6b, b6c⟩, hD⟩
                replace HT := Lib.hid (HT.out.draw hD)
                clear hD
                have b6d := b6b (by omega)
                clear b6b b6c
                go_wp2_with fail
                have HBW : Hid (Below w.heap.size w w22) := HB.out.trans (HT.out.2.2.1.2.below HSB.out HB.out.size)
                exact bodyPost_ret (v := .tuple #[.int .i64 251, .int .i64 b6, .slice (some ⟨g, 0, none⟩) n lc]) (by simp only [results, Tryz.results5]; simp [go_sem]) rfl ⟨⟨251, b6, _, n, lc, _, rfl, hn4, HT.out.1.low HB.out.size, HT.out.2.1, by omega, by omega⟩, HBW.out⟩
            · clear ja jd
              obtain ⟨V4, hV4⟩ : ∃ Z, Z = (w13.setCell ⟨g, m * 2, none⟩ (.int .i64 kd)).setCell ⟨g, m * 2 + 1, none⟩ (.int .i64 (-1)) := ⟨_, rfl⟩
              obtain ⟨f4, hf4⟩ := DeT.spoil kd (-1) HR.out.d HR.out.lo HR.out.hg HR.out.hc HR.out.row HR.out.cells
              rw [← hV4] at hf4
              have HT := Lib.hid hf4
              have HV4 := Lib.hid hV4
              clear hV4 hf4
              go_wp2_with fail
              rw [← HV4.out]
              clear HV4 y0 y1 z0 z1 l0 x0 x1 x2 HR
              refine (n_any sb 251 _ HT.out.2.2.1.1 (by omega)).mono ?_
              rintro e w20 ⟨⟨q, rfl, qa, qb, qc⟩, hD⟩
              replace HT := Lib.hid (HT.out.draw hD)
              clear hD
              have qd := qb (by omega)
              clear qb qc
              go_wp2_with fail
              refine (one_any sb 30 _ HT.out.2.2.1.1 (by omega)).mono ?_
              rintro e w21 ⟨⟨bb, rfl⟩, hD⟩
              replace HT := Lib.hid (HT.out.draw hD)
              clear hD
              cases bb
              · go_wp2_with fail
                refine (n_any sb 6 _ HT.out.2.2.1.1 (by omega)).mono ?_
                rintro e w22 ⟨⟨b6, rfl, b6a, b6b, b6c⟩, hD⟩
                replace HT := Lib.hid (HT.out.draw hD)
                clear hD
                have b6d := b6b (by omega)
                clear b6b b6c
                go_wp2_with fail
                have HBW : Hid (Below w.heap.size w w22) := HB.out.trans (HT.out.2.2.1.2.below HSB.out HB.out.size)
                exact bodyPost_ret (v := .tuple #[.int .i64 q, .int .i64 b6, .slice (some ⟨g, 0, none⟩) n lc]) (by simp only [results, Tryz.results5]; simp [go_sem]) rfl ⟨⟨q, b6, _, n, lc, _, rfl, hn4, HT.out.1.low HB.out.size, HT.out.2.1, by omega, by omega⟩, HBW.out⟩
              · go_wp2_with fail
                refine (n_any sb 6 _ HT.out.2.2.1.1 (by omega)).mono ?_
                rintro e w22 ⟨⟨b6, rfl, b6a, b6b, b6c⟩, hD⟩
                replace HT := Lib.hid (HT.out.draw hD)
                clear hD
                have b6d := b6b (by omega)
                clear b6b b6c
                go_wp2_with fail
                have HBW : Hid (Below w.heap.size w w22) := HB.out.trans (HT.out.2.2.1.2.below HSB.out HB.out.size)
                exact bodyPost_ret (v := .tuple #[.int .i64 251, .int .i64 b6, .slice (some ⟨g, 0, none⟩) n lc]) (by simp only [results, Tryz.results5]; simp [go_sem]) rfl ⟨⟨251, b6, _, n, lc, _, rfl, hn4, HT.out.1.low HB.out.size, HT.out.2.1, by omega, by omega⟩, HBW.out⟩
            · clear ja jd
              obtain ⟨V4, hV4⟩ : ∃ Z, Z = (w13.setCell ⟨g, m * 2, none⟩ (.int .i64 kd)).setCell ⟨g, m * 2 + 1, none⟩ (.int .i64 (1000001)) := ⟨_, rfl⟩
              obtain ⟨f4, hf4⟩ := DeT.spoil kd (1000001) HR.out.d HR.out.lo HR.out.hg HR.out.hc HR.out.row HR.out.cells
              rw [← hV4] at hf4
              have HT := Lib.hid hf4
              have HV4 := Lib.hid hV4
              clear hV4 hf4
              go_wp2_with fail
              rw [← HV4.out]
              clear HV4 y0 y1 z0 z1 l0 x0 x1 x2 HR
              refine (n_any sb 251 _ HT.out.2.2.1.1 (by omega)).mono ?_
              rintro e w20 ⟨⟨q, rfl, qa, qb, qc⟩, hD⟩
              replace HT := Lib.hid (HT.out.draw hD)
              clear hD
              have qd := qb (by omega)
              clear qb qc
              go_wp2_with fail
              refine (one_any sb 30 _ HT.out.2.2.1.1 (by omega)).mono ?_
              rintro e w21 ⟨⟨bb, rfl⟩, hD⟩
              replace HT := Lib.hid (HT.out.draw hD)
              clear hD
              cases bb
              · go_wp2_with fail
                refine (n_any sb 6 _ HT.out.2.2.1.1 (by omega)).mono ?_
                rintro e w22 ⟨⟨b6, rfl, b6a, b6b, b6c⟩, hD⟩
                replace HT := Lib.hid (HT.out.draw hD)
                clear hD
                have b6d := b6b (by omega)
                clear b6b b6c
                go_wp2_with fail
                have HBW : Hid (Below w.heap.size w w22) := HB.out.trans (HT.out.2.2.1.2.below HSB.out HB.out.size)
                exact bodyPost_ret (v := .tuple #[.int .i64 q, .int .i64 b6, .slice (some ⟨g, 0, none⟩) n lc]) (by simp only [results, Tryz.results5]; simp [go_sem]) rfl ⟨⟨q, b6, _, n, lc, _, rfl, hn4, HT.out.1.low HB.out.size, HT.out.2.1, by omega, by omega⟩, HBW.out⟩
              · go_wp2_with fail
                refine (n_any sb 6 _ HT.out.2.2.1.1 (by omega)).mono ?_
                rintro e w22 ⟨⟨b6, rfl, b6a, b6b, b6c⟩, hD⟩
                replace HT := Lib.hid (HT.out.draw hD)
                clear hD
                have b6d := b6b (by omega)
                clear b6b b6c
                go_wp2_with fail
                have HBW : Hid (Below w.heap.size w w22) := HB.out.trans (HT.out.2.2.1.2.below HSB.out HB.out.size)
                exact bodyPost_ret (v := .tuple #[.int .i64 251, .int .i64 b6, .slice (some ⟨g, 0, none⟩) n lc]) (by simp only [results, Tryz.results5]; simp [go_sem]) rfl ⟨⟨251, b6, _, n, lc, _, rfl, hn4, HT.out.1.low HB.out.size, HT.out.2.1, by omega, by omega⟩, HBW.out⟩
end Go.Proofs.YtdlojhncbgfjbaaGreatDoor
namespace Go.Proofs.YtdlojhncbgfjbaaGreatDoor
namespace Ln
/-- Notes with one number behind the other, from lo up to below next. -/
def Seg : Int → List Nt → Int → Prop
  | lo, [], next => lo = next
  | lo, n :: l, next => n.1 = lo ∧ Seg (lo + 1) l next
theorem Seg.len {l : List Nt} : ∀ {lo next : Int}, Seg lo l next → lo + l.length = next := by
  induction l with
  | nil => intro lo next h; have : lo = next := h; simp; omega
  | cons n l ih => intro lo next h; have := ih h.2; simp only [List.length_cons]; omega
theorem Seg.snoc {l : List Nt} {n : Nt} : ∀ {lo next : Int}, Seg lo l next → n.1 = next → Seg lo (l ++ [n]) (next + 1) := by
  induction l with
  | nil => intro lo next h e; have h : lo = next := h; exact ⟨by omega, by show lo + 1 = next + 1; omega⟩
  | cons m l ih => intro lo next h e; exact ⟨h.1, ih h.2 e⟩
theorem Seg.tail {l : List Nt} {lo next : Int} (h : Seg lo l next) (hl : l ≠ []) : Seg (lo + 1) l.tail next := by
  cases l with
  | nil => exact absurd rfl hl
  | cons n l => exact h.2
theorem Seg.mem {l : List Nt} : ∀ {lo next : Int}, Seg lo l next → ∀ n ∈ l, lo ≤ n.1 ∧ n.1 < next := by
  induction l with
  | nil => intro lo next h n hn; cases hn
  | cons m l ih =>
    intro lo next h n hn
    have := h.2.len
    rcases List.mem_cons.1 hn with rfl | hn
    · have := h.1; omega
    · have := ih h.2 n hn; omega
theorem Seg.at {l : List Nt} : ∀ {lo next : Int}, Seg lo l next → ∀ i, i < l.length → fl l (i * 2) = lo + i := by
  induction l with
  | nil => intro lo next h i hi; exact absurd hi (Nat.not_lt_zero _)
  | cons m l ih =>
    intro lo next h i hi
    rw [fl_even]
    cases i with
    | zero => have := h.1; simp; omega
    | succ i =>
      have := ih h.2 i (by simpa using hi)
      rw [fl_even] at this
      simp only [List.getD_cons_succ]
      omega
theorem fl_mem {l : List Nt} {i : Nat} (hi : i < l.length) : (fl l (i * 2), fl l (i * 2 + 1)) ∈ l := at_mem hi
theorem Seg.wt {l : List Nt} {lo next : Int} (h : Seg lo l next) (h1 : 1 ≤ lo) (hv : ∀ n ∈ l, -1000000 ≤ n.2 ∧ n.2 ≤ 1000000) : Wt next (fl l) l.length := by
  intro i hi
  have e := h.at i hi
  have hl := h.len
  have hm := hv _ (fl_mem hi)
  refine ⟨?_, by omega, hm.1, hm.2⟩
  cases i with
  | zero => unfold ah; rw [if_pos rfl]; omega
  | succ i => rw [ah_succ, h.at i (by omega)]; omega
/-- Notes that rise from nought, the last of them numbered q. -/
inductive Rise : List Nt → Int → Prop
  | nil : Rise [] 0
  | snoc {l : List Nt} {p : Int} {n : Nt} : Rise l p → p < n.1 → Rise (l ++ [n]) n.1
theorem Rise.nn {l : List Nt} {q : Int} (h : Rise l q) : (l.length : Int) ≤ q := by
  induction h with
  | nil => simp
  | snoc h hp ih => simp; omega
theorem ah_app (l m : List Nt) (i : Nat) (hi : i ≤ l.length) : ah (fl (l ++ m)) i = ah (fl l) i := by
  unfold ah
  by_cases e : i = 0
  · rw [if_pos e, if_pos e]
  · rw [if_neg e, if_neg e, fl_app _ _ _ (by omega)]
theorem Rise.end {l : List Nt} {q : Int} (h : Rise l q) : ah (fl l) l.length = q := by
  cases h with
  | nil => rfl
  | @snoc l p n h hp =>
    have e : (l ++ [n]).length = l.length + 1 := by simp
    rw [e, ah_succ, show l.length * 2 = l.length * 2 + 0 by omega, fl_app2]
    simp [fl]
theorem Rise.at {l : List Nt} {q : Int} (h : Rise l q) : ∀ i, i < l.length → ah (fl l) i < fl l (i * 2) ∧ fl l (i * 2) ≤ q := by
  induction h with
  | nil => intro i hi; exact absurd hi (Nat.not_lt_zero _)
  | @snoc l p n h hp ih =>
    intro i hi
    have e : (l ++ [n]).length = l.length + 1 := by simp
    rw [e] at hi
    by_cases c : i < l.length
    · have := ih i c
      rw [ah_app _ _ _ (by omega), fl_app _ _ _ (by omega)]
      omega
    · obtain rfl : i = l.length := by omega
      rw [ah_app _ _ _ (by omega), h.end, show l.length * 2 = l.length * 2 + 0 by omega, fl_app2]
      have : fl [n] 0 = n.1 := by simp [fl]
      omega
/-- As many as the last number says: one behind the other. -/
theorem Rise.all {l : List Nt} {q : Int} (h : Rise l q) (e : (l.length : Int) = q) : ∀ i, i < l.length → fl l (i * 2) = i + 1 := by
  induction h with
  | nil => intro i hi; exact absurd hi (Nat.not_lt_zero _)
  | @snoc l p n h hp ih =>
    intro i hi
    have e2 : (l ++ [n]).length = l.length + 1 := by simp
    have hn := h.nn
    rw [e2] at hi e
    by_cases c : i < l.length
    · rw [fl_app _ _ _ (by omega)]; exact ih (by omega) i c
    · obtain rfl : i = l.length := by omega
      rw [show l.length * 2 = l.length * 2 + 0 by omega, fl_app2]
      have : fl [n] 0 = n.1 := by simp [fl]
      omega
/-- What stands of a master between polls. -/
structure Ms (m : M) : Prop where
  r : Rise m.notes m.seq
  g : (m.notes.length : Int) + m.gaps = m.seq
  n : 0 ≤ m.gaps
theorem fold_put (l : List Nt) : ∀ (lo next : Int) (m : M), Seg lo l next → next ≤ 201 → m.seq ≤ next - 1 → Ms m →
    Ms (l.foldl M.put m) ∧ (l.foldl M.put m).seq ≤ next - 1 ∧ (l ≠ [] → (l.foldl M.put m).seq = next - 1) ∧ (l.foldl M.put m).gaps ≤ m.gaps + max 0 (lo - 1 - m.seq) ∧ (∀ P : Nt → Prop, (∀ n ∈ m.notes, P n) → (∀ n ∈ l, P n) → ∀ n ∈ (l.foldl M.put m).notes, P n) := by
  induction l with
  | nil =>
    intro lo next m h h2 h3 h4
    exact ⟨h4, h3, fun c => absurd rfl c, by show m.gaps ≤ _; omega, fun P a _ => a⟩
  | cons n l ih =>
    intro lo next m h h2 h3 h4
    have hl := h.2.len
    have h1 := h.1
    rw [List.foldl_cons]
    by_cases c : m.seq < n.1
    · have hlen : m.notes.length < 200 := by have := h4.g; have := h4.n; omega
      have e : m.put n = ⟨n.1, m.notes ++ [n], m.gaps + n.1 - m.seq - 1⟩ := by unfold M.put; rw [if_pos ⟨c, hlen⟩]
      rw [e]
      have hm : Ms ⟨n.1, m.notes ++ [n], m.gaps + n.1 - m.seq - 1⟩ := ⟨h4.r.snoc c, by have := h4.g; simp; omega, by have := h4.n; show 0 ≤ m.gaps + n.1 - m.seq - 1; omega⟩
      obtain ⟨a1, a2, a3, a4, a5⟩ := ih (lo + 1) next _ h.2 h2 (by show n.1 ≤ _; omega) hm
      refine ⟨a1, a2, fun _ => ?_, ?_, fun P p1 p2 => a5 P ?_ (fun x hx => p2 x (by simp [hx]))⟩
      · by_cases c2 : l = []
        · subst c2; have h5 : lo + 1 = next := h.2; show n.1 = _; omega
        · exact a3 c2
      · have a4 : _ ≤ m.gaps + n.1 - m.seq - 1 + max 0 (lo + 1 - 1 - n.1) := a4
        omega
      · intro x hx
        rcases List.mem_append.1 hx with hx | hx
        · exact p1 x hx
        · have : x = n := by simpa using hx
          subst this; exact p2 _ (by simp)
    · have e : m.put n = m := by unfold M.put; rw [if_neg (fun k => c k.1)]
      rw [e]
      obtain ⟨a1, a2, a3, a4, a5⟩ := ih (lo + 1) next m h.2 h2 h3 h4
      refine ⟨a1, a2, fun _ => ?_, by omega, fun P p1 p2 => a5 P p1 (fun x hx => p2 x (by simp [hx]))⟩
      by_cases c2 : l = []
      · subst c2; have h5 : lo + 1 = next := h.2; show m.seq = _; omega
      · exact a3 c2
theorem foldl_frame (u : Int) (l : List Nt) : ∀ m, (∀ n ∈ l, Fine u n) → (l.map (out u)).foldl (M.frame u) m = l.foldl M.put m := by
  induction l with
  | nil => intro m _; rfl
  | cons n l ih =>
    intro m h
    rw [List.map_cons, List.foldl_cons, List.foldl_cons]
    have e : M.frame u m (out u n) = m.put n := by unfold M.frame; rw [noteOf_out (h n (by simp))]
    rw [e]
    exact ih _ (fun x hx => h x (by simp [hx]))
theorem take_send {s : S} {m : M} {u : Int} (hs : s.Right) (hm : m.Right) (hu : s.unit = u) : m.take u s.send = s.wait.foldl M.put m := by
  have hf := hs.fine
  rw [hu] at hf
  rw [M.take_yes hm (by have := send_len s; omega), S.send_yes hs, hu, scan_texts hf]
  exact foldl_frame u _ m hf
/-- The value noted last. -/
def lastv (T : List Int) : Int := T.getD (T.length - 1) 0
theorem lastv_nil : lastv [] = 0 := rfl
theorem lastv_snoc (T : List Int) (v : Int) : lastv (T ++ [v]) = v := by
  unfold lastv
  rw [List.getD_eq_getElem?_getD]; simp
/-- A note tells what was noted under its number. -/
def Val (T : List Int) (n : Nt) : Prop := (1 ≤ n.1 ∧ n.1 ≤ T.length) ∧ n.2 = T.getD (n.1 - 1).toNat 0
theorem Val.snoc {T : List Int} {n : Nt} (h : Val T n) (v : Int) : Val (T ++ [v]) n := by
  obtain ⟨⟨h1, h2⟩, h3⟩ := h
  refine ⟨⟨h1, by simp; omega⟩, ?_⟩
  rw [h3, List.getD_eq_getElem?_getD, List.getD_eq_getElem?_getD, List.getElem?_append_left (by omega)]
theorem Val.new (T : List Int) (v : Int) : Val (T ++ [v]) ((T.length : Int) + 1, v) := by
  refine ⟨⟨by show (1 : Int) ≤ T.length + 1; omega, by simp⟩, ?_⟩
  show v = (T ++ [v]).getD ((T.length : Int) + 1 - 1).toNat 0
  rw [show ((T.length : Int) + 1 - 1).toNat = T.length by omega, List.getD_eq_getElem?_getD]; simp
structure Inv (u b : Int) (T : List Int) (k : Nat) (s : S) (m : M) : Prop where
  hu : s.unit = u
  hb : s.band = b
  hn : s.next = T.length + 1
  hk : T.length ≤ k
  hd : 0 ≤ s.drops ∧ s.drops ≤ k
  hs : s.seen = true ↔ T ≠ []
  hl : s.last = lastv T
  hL : -1000000 ≤ s.last ∧ s.last ≤ 1000000
  hw : Seg (s.next - s.wait.length) s.wait s.next
  h40 : s.wait.length ≤ 40
  hlo : s.wait.length ≤ T.length
  he : s.wait = [] → m.seq = s.next - 1
  vw : ∀ n ∈ s.wait, Val T n
  vm : ∀ n ∈ m.notes, Val T n
  vr : ∀ n ∈ s.wait, -1000000 ≤ n.2 ∧ n.2 ≤ 1000000
  ms : Ms m
  hq : m.seq ≤ s.next - 1
  gd : m.gaps ≤ s.drops
  gl : m.gaps + (s.next - s.wait.length - 1 - m.seq) ≤ s.drops
theorem Inv.new (u b : Int) : Inv u b [] 0 (S.new u b) M.new :=
  ⟨rfl, rfl, rfl, Nat.le_refl _, ⟨by show (0 : Int) ≤ 0; omega, by show (0 : Int) ≤ 0; omega⟩, ⟨fun h => (by cases h), fun h => absurd rfl h⟩, rfl, ⟨by show (-1000000 : Int) ≤ 0; omega, by show (0 : Int) ≤ 1000000; omega⟩, rfl, by show (0 : Nat) ≤ 40; omega, Nat.le_refl _, fun _ => rfl, fun _ h => (nomatch h), fun _ h => (nomatch h), fun _ h => (nomatch h), ⟨.nil, rfl, by show (0 : Int) ≤ 0; omega⟩, by show (0 : Int) ≤ 1 - 1; omega, by show (0 : Int) ≤ 0; omega, by show (0 : Int) + (1 - 0 - 1 - 0) ≤ 0; omega⟩
theorem Inv.right {u b : Int} {T : List Int} {k : Nat} {s : S} {m : M} (h : Inv u b T k s m) (hf : Fit u b) (hk : k ≤ 200) : s.Right := by
  have hn := h.hn
  have h1 := h.hk
  have hd := h.hd
  have hlo := h.hlo
  refine ⟨⟨by rw [h.hu]; exact hf.1, by rw [h.hb]; exact hf.2, h.hL, fun c => ?_, ⟨by omega, by omega⟩, ⟨hd.1, by omega⟩⟩, h.h40, h.hw.wt (by omega) h.vr⟩
  have : T = [] := Classical.byContradiction fun c2 => by rw [h.hs.2 c2] at c; cases c
  rw [h.hl, this]; rfl
theorem Inv.mright {u b : Int} {T : List Int} {k : Nat} {s : S} {m : M} (h : Inv u b T k s m) (hk : k ≤ 200) : m.Right := by
  have hn := h.hn
  have h1 := h.hk
  have hq := h.hq
  have hg := h.ms.g
  have h0 := h.ms.n
  exact ⟨⟨by omega, by omega⟩, by omega, h0, by omega⟩
theorem Inv.more {u b : Int} {T : List Int} {k : Nat} {s : S} {m : M} (h : Inv u b T k s m) : Inv u b T (k + 1) s m :=
  { h with hk := by have := h.hk; omega, hd := by have := h.hd; omega }
/-- Is a value noted? -/
def Tk (b : Int) (T : List Int) (v : Int) : Prop := ¬ (T ≠ [] ∧ -b ≤ v - lastv T ∧ v - lastv T ≤ b)
theorem Inv.takes {u b : Int} {T : List Int} {k : Nat} {s : S} {m : M} (h : Inv u b T k s m) (hf : Fit u b) (hk : k ≤ 200) {v : Int} (hv : -1000000 ≤ v ∧ v ≤ 1000000) : s.Takes v ↔ Tk b T v := by
  have hn := h.hn
  have h1 := h.hk
  unfold S.Takes Tk
  rw [h.hb, h.hl, h.hs]
  exact ⟨fun c => c.2.2.2, fun c => ⟨h.right hf hk, hv, by omega, c⟩⟩
theorem Inv.put {u b : Int} {T : List Int} {k : Nat} {s : S} {m : M} (h : Inv u b T k s m) {v : Int} (hv : -1000000 ≤ v ∧ v ≤ 1000000) : Inv u b (T ++ [v]) (k + 1) (s.put v) m := by
  have hn := h.hn
  have h1 := h.hk
  have hd := h.hd
  have hlo := h.hlo
  have h40 := h.h40
  have hq := h.hq
  have gd := h.gd
  have gl := h.gl
  have eT : (T ++ [v]).length = T.length + 1 := by simp
  have hS := h.hw.snoc (n := (s.next, v)) rfl
  have hV : ∀ n ∈ s.wait ++ [(s.next, v)], Val (T ++ [v]) n := by
    intro n hm
    rcases List.mem_append.1 hm with hm | hm
    · exact (h.vw n hm).snoc v
    · have : n = (s.next, v) := by simpa using hm
      rw [this, hn]; exact Val.new T v
  have hR : ∀ n ∈ s.wait ++ [(s.next, v)], -1000000 ≤ n.2 ∧ n.2 ≤ 1000000 := by
    intro n hm
    rcases List.mem_append.1 hm with hm | hm
    · exact h.vr n hm
    · have : n = (s.next, v) := by simpa using hm
      rw [this]; exact hv
  have hne : s.wait ++ [(s.next, v)] ≠ [] := by simp
  have hM : ∀ n ∈ m.notes, Val (T ++ [v]) n := fun n hm => (h.vm n hm).snoc v
  have hsn : (true = true ↔ T ++ [v] ≠ []) := ⟨fun _ => by simp, fun _ => rfl⟩
  unfold S.put
  by_cases c : s.wait.length < 40
  · rw [if_pos c]
    have el : (s.wait ++ [(s.next, v)]).length = s.wait.length + 1 := by simp
    refine ⟨h.hu, h.hb, by show s.next + 1 = _; rw [eT]; omega, by rw [eT]; omega, ⟨hd.1, by show s.drops ≤ _; omega⟩, hsn, by show v = _; rw [lastv_snoc], hv, ?_, by show (s.wait ++ [(s.next, v)]).length ≤ 40; rw [el]; omega, by show (s.wait ++ [(s.next, v)]).length ≤ _; rw [el, eT]; omega, fun c2 => absurd c2 hne, hV, hM, hR, h.ms, by show m.seq ≤ s.next + 1 - 1; omega, gd, ?_⟩
    · show Seg (s.next + 1 - ((s.wait ++ [(s.next, v)]).length : Int)) _ (s.next + 1)
      rw [el, show s.next + 1 - ((s.wait.length + 1 : Nat) : Int) = s.next - s.wait.length by omega]
      exact hS
    · show m.gaps + (s.next + 1 - ((s.wait ++ [(s.next, v)]).length : Int) - 1 - m.seq) ≤ s.drops
      rw [el]; omega
  · rw [if_neg c]
    have el : (s.wait ++ [(s.next, v)]).tail.length = 40 := by simp; omega
    have hsub : ∀ n ∈ (s.wait ++ [(s.next, v)]).tail, n ∈ s.wait ++ [(s.next, v)] := fun n hm => List.mem_of_mem_tail hm
    refine ⟨h.hu, h.hb, by show s.next + 1 = _; rw [eT]; omega, by rw [eT]; omega, ⟨by show 0 ≤ s.drops + 1; omega, by show s.drops + 1 ≤ _; omega⟩, hsn, by show v = _; rw [lastv_snoc], hv, ?_, by show (s.wait ++ [(s.next, v)]).tail.length ≤ 40; rw [el]; omega, by show (s.wait ++ [(s.next, v)]).tail.length ≤ _; rw [el, eT]; omega, fun c2 => ?_, fun n hm => hV n (hsub n hm), hM, fun n hm => hR n (hsub n hm), h.ms, by show m.seq ≤ s.next + 1 - 1; omega, by show m.gaps ≤ s.drops + 1; omega, ?_⟩
    · show Seg (s.next + 1 - ((s.wait ++ [(s.next, v)]).tail.length : Int)) _ (s.next + 1)
      rw [el, show s.next + 1 - ((40 : Nat) : Int) = s.next - s.wait.length + 1 by omega]
      exact hS.tail hne
    · have c3 : (s.wait ++ [(s.next, v)]).tail = [] := c2
      rw [c3] at el; simp at el
    · show m.gaps + (s.next + 1 - ((s.wait ++ [(s.next, v)]).tail.length : Int) - 1 - m.seq) ≤ s.drops + 1
      rw [el]; omega
theorem Inv.poll {u b : Int} {T : List Int} {k : Nat} {s : S} {m : M} (h : Inv u b T k s m) (hf : Fit u b) (hk : k < 200) : Inv u b T (k + 1) s (m.take u s.send) := by
  have hn := h.hn
  have h1 := h.hk
  have hd := h.hd
  have hlo := h.hlo
  have hq := h.hq
  have gd := h.gd
  have gl := h.gl
  rw [take_send (h.right hf (by omega)) (h.mright (by omega)) h.hu]
  obtain ⟨a1, a2, a3, a4, a5⟩ := fold_put s.wait _ _ m h.hw (by omega) hq h.ms
  refine ⟨h.hu, h.hb, hn, by omega, ⟨hd.1, by omega⟩, h.hs, h.hl, h.hL, h.hw, h.h40, hlo, fun c => ?_, h.vw, a5 _ h.vm h.vw, h.vr, a1, a2, by omega, ?_⟩
  · have := h.he c
    rw [c]; exact this
  · by_cases c : s.wait = []
    · have := h.he c
      have el : s.wait.length = 0 := by rw [c]; rfl
      rw [c]; show m.gaps + (s.next - ((0 : Nat) : Int) - 1 - m.seq) ≤ s.drops
      rw [el] at gl; exact gl
    · have := a3 c; omega
theorem left_none {q : Int} {l : List Nt} (h : ∀ n ∈ l, n.1 ≤ q) : left q l = [] := by
  unfold left
  rw [List.filter_eq_nil_iff]
  intro n hn
  have := h n hn
  simp; omega
theorem Inv.heard {u b : Int} {T : List Int} {k : Nat} {s : S} {m : M} (h : Inv u b T k s m) (hf : Fit u b) (hk : k ≤ 200) (hz : m.seq = s.next - 1) : Inv u b T k (s.heard m.seq) m ∧ (s.heard m.seq).wait = [] ∧ (s.heard m.seq).next = s.next ∧ (s.heard m.seq).drops = s.drops := by
  have e : left m.seq s.wait = [] := left_none fun n hn => by have := h.hw.mem n hn; omega
  rw [S.heard_yes (h.right hf hk), e]
  have hd := h.gd
  exact ⟨⟨h.hu, h.hb, h.hn, h.hk, h.hd, h.hs, h.hl, h.hL, by show s.next - ((0 : Nat) : Int) = s.next; omega, by show (0 : Nat) ≤ 40; omega, by show (0 : Nat) ≤ _; omega, fun _ => hz, fun _ k => (nomatch k), h.vm, fun _ k => (nomatch k), h.ms, h.hq, h.gd, by show m.gaps + (s.next - ((0 : Nat) : Int) - 1 - m.seq) ≤ s.drops; omega⟩, rfl, rfl, rfl⟩
theorem Inv.full {u b : Int} {T : List Int} {k : Nat} {s : S} {m : M} (h : Inv u b T k s m) (hf : Fit u b) (hk : k < 200) : (m.take u s.send).seq = s.next - 1 := by
  have hn := h.hn
  have h1 := h.hk
  rw [take_send (h.right hf (by omega)) (h.mright (by omega)) h.hu]
  obtain ⟨a1, a2, a3, a4, a5⟩ := fold_put s.wait _ _ m h.hw (by omega) h.hq h.ms
  by_cases c : s.wait = []
  · have := h.he c
    rw [c]; exact this
  · exact a3 c
open Classical in
/-- The values that were noted of the first events. -/
noncomputable def tk (b : Int) (f : Nat → Int) : Nat → List Int
  | 0 => []
  | i + 1 => if f (i * 2) = 1 ∧ Tk b (tk b f i) (f (i * 2 + 1)) then tk b f i ++ [f (i * 2 + 1)] else tk b f i
theorem tk_yes {b : Int} {f : Nat → Int} {i : Nat} (h : f (i * 2) = 1) (h2 : Tk b (tk b f i) (f (i * 2 + 1))) : tk b f (i + 1) = tk b f i ++ [f (i * 2 + 1)] := if_pos ⟨h, h2⟩
theorem tk_no {b : Int} {f : Nat → Int} {i : Nat} (h : ¬ (f (i * 2) = 1 ∧ Tk b (tk b f i) (f (i * 2 + 1)))) : tk b f (i + 1) = tk b f i := if_neg h
theorem run_inv {u b : Int} {f : Nat → Int} (hf : Fit u b) : ∀ n, n ≤ 200 → EvsOk f n → Inv u b (tk b f n) n (run u b f n).1 (run u b f n).2 := by
  intro n
  induction n with
  | zero => intro _ _; exact Inv.new u b
  | succ n ih =>
    intro hn he
    have h := ih (by omega) (fun i hi => he i (by omega))
    have ev := he n (by omega)
    show Inv u b _ _ (meet u (run u b f n) _ _).1 (meet u (run u b f n) _ _).2
    generalize run u b f n = r at h ⊢
    obtain ⟨s, m⟩ := r
    have h : Inv u b (tk b f n) n s m := h
    by_cases c : f (n * 2) = 1
    · have hv : -1000000 ≤ f (n * 2 + 1) ∧ f (n * 2 + 1) ≤ 1000000 := by rcases ev with ev | ev <;> omega
      rw [meet_value u s m c]
      show Inv u b _ _ (s.note _) m
      by_cases t : Tk b (tk b f n) (f (n * 2 + 1))
      · rw [tk_yes c t, S.note_yes ((h.takes hf (by omega) hv).2 t)]
        exact h.put hv
      · rw [tk_no (fun k => t k.2), S.note_no (fun k => t ((h.takes hf (by omega) hv).1 k))]
        exact h.more
    · rw [tk_no (fun k => c k.1)]
      by_cases c2 : f (n * 2 + 1) = 2
      · rw [meet_lost u s m c c2]; exact h.more
      · by_cases c3 : f (n * 2 + 1) = 0
        · rw [meet_good u s m c c3]
          exact ((h.poll hf (by omega)).heard hf hn (h.full hf (by omega))).1
        · rw [meet_unheard u s m c c2 c3]
          exact h.poll hf (by omega)
/-- Behind a good poll. -/
theorem run_good {u b : Int} {f : Nat → Int} (hf : Fit u b) {n : Nat} (hn : n < 200) (he : EvsOk f n) (h1 : f (n * 2) = 2) (h2 : f (n * 2 + 1) = 0) :
    ∃ s m, run u b f (n + 1) = (s, m) ∧ Inv u b (tk b f n) (n + 1) s m ∧ s.wait = [] ∧ m.seq = s.next - 1 ∧ s.drops = (run u b f n).1.drops := by
  have h := run_inv hf n (by omega) he
  have e : run u b f (n + 1) = meet u (run u b f n) (f (n * 2)) (f (n * 2 + 1)) := rfl
  rw [e]
  clear e
  generalize run u b f n = r at h ⊢
  obtain ⟨s, m⟩ := r
  have h : Inv u b (tk b f n) n s m := h
  have hp := h.poll hf hn
  have hz := h.full hf hn
  obtain ⟨a1, a2, a3, a4⟩ := hp.heard hf (by omega) hz
  rw [meet_good u s m (by omega) h2]
  exact ⟨_, _, rfl, a1, a2, by rw [a3]; exact hz, a4⟩
theorem run_same (u b : Int) {f g : Nat → Int} : ∀ n, (∀ j, j < n * 2 → g j = f j) → run u b g n = run u b f n := by
  intro n
  induction n with
  | zero => intro _; rfl
  | succ n ih =>
    intro h
    show meet u (run u b g n) _ _ = meet u (run u b f n) _ _
    rw [ih (fun j hj => h j (by omega)), h (n * 2) (by omega), h (n * 2 + 1) (by omega)]
theorem EvsOk.same {f g : Nat → Int} {n : Nat} (h : EvsOk f n) (e : ∀ j, j < n * 2 → g j = f j) : EvsOk g n := fun i hi => by
  rw [e (i * 2) (by omega), e (i * 2 + 1) (by omega)]; exact h i hi
theorem code_ok {u b : Int} {f : Nat → Int} {n : Nat} (h : lcode u b f n = 0) : n ≤ 200 ∧ Fit u b ∧ EvsOk f n := by
  unfold lcode at h
  by_cases c : 200 < n
  · rw [if_pos c] at h; omega
  · rw [if_neg c] at h
    by_cases c2 : Fit u b ∧ EvsOk f n
    · exact ⟨by omega, c2.1, c2.2⟩
    · rw [if_neg c2] at h; omega
/-- What the master and the station are behind the last poll. -/
structure Fin (T : List Int) (d : Int) (S : S) (M : M) : Prop where
  wait : S.wait.length = 0
  gd : M.gaps ≤ S.drops
  g0 : 0 ≤ M.gaps
  up : ∀ i, i < M.notes.length → ah (fl M.notes) i < fl M.notes (i * 2) ∧ fl M.notes (i * 2) < S.next
  last : ah (fl M.notes) M.notes.length = S.next - 1
  seq : M.seq = S.next - 1
  sum : (M.notes.length : Int) + M.gaps = S.next - 1
  next : S.next = T.length + 1
  drops : S.drops = d
  val : d = 0 → M.gaps = 0 ∧ M.notes.length = T.length ∧ ∀ i, i < T.length → fl M.notes (i * 2) = i + 1 ∧ fl M.notes (i * 2 + 1) = T.getD i 0
  big : M.notes.length ≤ 200 ∧ M.seq ≤ 200 ∧ M.gaps ≤ 200
theorem fin {u b : Int} {f g : Nat → Int} {n : Nat} (h : lcode u b f n = 0) (hn : n < 200) (e : ∀ j, j < n * 2 → g j = f j) (e1 : g (n * 2) = 2) (e2 : g (n * 2 + 1) = 0) : lcode u b g (n + 1) = 0 ∧ Fin (tk b g n) (lst u b f n).drops (lst u b g (n + 1)) (lma u b g (n + 1)) := by
  obtain ⟨h1, h2, h3⟩ := code_ok h
  have h4 : EvsOk g n := h3.same e
  obtain ⟨s, m, r1, r2, r3, r4, r5⟩ := run_good h2 hn h4 e1 e2
  obtain ⟨c0, c1, c2⟩ := lout_yes (u := u) (b := b) (f := g) (n := n + 1) (by omega) h2 (h4.step (Or.inr ⟨e1, by omega, by omega⟩))
  obtain ⟨d0, d1, d2⟩ := lout_yes (u := u) (b := b) h1 h2 h3
  have ed : (lst u b f n).drops = s.drops := by rw [d1, r5, run_same u b n e]
  rw [r1] at c1 c2
  have c1 : lst u b g (n + 1) = s := c1
  have c2 : lma u b g (n + 1) = m := c2
  have hA := r2.ms.r.at
  have hE := r2.ms.r.end
  have hg := r2.ms.g
  have h0 := r2.ms.n
  have hN := r2.hn
  have hK := r2.hk
  have hG := r2.gd
  rw [c1, c2]
  refine ⟨c0, ?_, ?_, ?_, ?_, ?_, ?_, ?_, ?_, ?_, ?_, ?_⟩
  · rw [r3]; rfl
  · exact hG
  · exact h0
  · intro i hi; have := hA i hi; omega
  · omega
  · exact r4
  · omega
  · exact hN
  · exact ed.symm
  · intro hd
    rw [ed] at hd
    have hz : m.gaps = 0 := by omega
    have hl : m.notes.length = (tk b g n).length := by omega
    refine ⟨hz, hl, fun i hi => ?_⟩
    have hal := r2.ms.r.all (by omega) i (by omega)
    have hv := (r2.vm _ (fl_mem (l := m.notes) (i := i) (by omega))).2
    refine ⟨hal, ?_⟩
    have hv : fl m.notes (i * 2 + 1) = (tk b g n).getD (fl m.notes (i * 2) - 1).toNat 0 := hv
    rw [hv, hal]
    congr 1
    omega
  · exact ⟨by omega, by omega, by omega⟩
open Classical in
theorem tk_same (b : Int) {f g : Nat → Int} : ∀ n, (∀ j, j < n * 2 → g j = f j) → tk b g n = tk b f n := by
  intro n
  induction n with
  | zero => intro _; rfl
  | succ n ih =>
    intro h
    show (if g (n * 2) = 1 ∧ Tk b (tk b g n) (g (n * 2 + 1)) then tk b g n ++ [g (n * 2 + 1)] else tk b g n) = (if f (n * 2) = 1 ∧ Tk b (tk b f n) (f (n * 2 + 1)) then tk b f n ++ [f (n * 2 + 1)] else tk b f n)
    rw [ih (fun j hj => h j (by omega)), h (n * 2) (by omega), h (n * 2 + 1) (by omega)]
theorem tk_mono (b : Int) (f : Nat → Int) (i : Nat) : ∀ n, i ≤ n → (tk b f i).length ≤ (tk b f n).length ∧ ∀ j, j < (tk b f i).length → (tk b f n).getD j 0 = (tk b f i).getD j 0 := by
  intro n
  induction n with
  | zero => intro h; obtain rfl : i = 0 := by omega
            exact ⟨Nat.le_refl _, fun _ _ => rfl⟩
  | succ n ih =>
    intro h
    by_cases c : i = n + 1
    · subst c; exact ⟨Nat.le_refl _, fun _ _ => rfl⟩
    obtain ⟨a, c⟩ := ih (by omega)
    by_cases t : f (n * 2) = 1 ∧ Tk b (tk b f n) (f (n * 2 + 1))
    · rw [tk_yes t.1 t.2]
      refine ⟨by simp; omega, fun j hj => ?_⟩
      rw [← c j hj, List.getD_eq_getElem?_getD, List.getD_eq_getElem?_getD, List.getElem?_append_left (by omega)]
    · rw [tk_no t]; exact ⟨a, c⟩
end Ln
end Go.Proofs.YtdlojhncbgfjbaaGreatDoor
namespace Go.Proofs.YtdlojhncbgfjbaaGreatDoor
open Go Go.RowKit Go.Deep

theorem lo_code (S : Ln.S) (M : Ln.M) (a b : Option Addr) (k l : Nat) (c : Int) (w : World) : (Instr.field 32 (loV S M a k b l c) 2).run Tryz.prog w = .ok (.int .i64 c) w := by kernel_rfl
/-- What stands of an answer, and of the script. -/
structure OnS (s : Nat) (S : Ln.S) (M : Ln.M) (a : Option Addr) (k : Nat) (b : Option Addr) (l : Nat) (la : Option Addr) (n : Nat) (f : Nat → Int) (w W : World) : Prop where
  row : W.rowIs s 32 11 (rowN (loL S M a k b l 0))
  own : IsIn b (M.notes.length * 2) (Ln.fl M.notes) W
  ev : IsIn la (n * 2) f W
  bel : Below w.heap.size w W
theorem OnS.below {s : Nat} {S : Ln.S} {M : Ln.M} {a : Option Addr} {k : Nat} {b : Option Addr} {l : Nat} {la : Option Addr} {n : Nat} {f : Nat → Int} {w W W' : World} (h : OnS s S M a k b l la n f w W) (hb : Below W.heap.size W W') : OnS s S M a k b l la n f w W' :=
  ⟨nrow_below h.row hb, h.own.below hb, h.ev.below hb, h.bel.trans (hb.mono h.bel.size)⟩
end Go.Proofs.YtdlojhncbgfjbaaGreatDoor
