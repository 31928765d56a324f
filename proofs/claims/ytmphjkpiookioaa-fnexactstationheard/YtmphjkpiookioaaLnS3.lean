/-
  StationHeard: the model's.
-/
import Derived.Test.YtmphjkpiookioaaLnI3
import Derived.Test.YtmphjkpiookioaaReg
namespace Go.Proofs.Ytmphjkpiookioaa
open Go.RowKit Go.Deep

/-- What stands in the model's StationHeard while its list grows. -/
structure HdI (s : Ln.S) (a : Option Addr) (k X : Nat) (a5 : Option Addr) (k5 : Nat) (L : List Ln.Nt) (w W : World) : Prop where
  x : W.rowIs w.heap.size 29 7 (rowN (stL s a k))
  y : W.rowIs (w.heap.size + 1) 29 7 (rowN stZ)
  z : W.rowIs X 29 7 (rowN [.int .i64 s.unit, .int .i64 s.band, .bool s.seen, .int .i64 s.last, .int .i64 s.next, .slice a5 L.length k5, .int .i64 s.drops])
  own : W.ownsRow (w.heap.size + 2) 39 2 (.slice a5 L.length k5) L.length (nvs L)
  inn : IsIn a (s.wait.length * 2) (Ln.fl s.wait) W
  bel : Below w.heap.size w W
theorem HdI.below {s : Ln.S} {a : Option Addr} {k X : Nat} {a5 : Option Addr} {k5 : Nat} {L : List Ln.Nt} {w W W' : World} (h : HdI s a k X a5 k5 L w W) (hb : Below W.heap.size W W') : HdI s a k X a5 k5 L w W' :=
  ⟨nrow_below h.x hb, nrow_below h.y hb, nrow_below h.z hb, ownsRow_bel h.own hb, h.inn.below hb, h.bel.trans (hb.mono h.bel.size)⟩
/-- The list grew, and stands in the answer's block again. -/
theorem HdI.push {s : Ln.S} {a : Option Addr} {k X : Nat} {a5 a6 : Option Addr} {k5 k6 : Nat} {L L' : List Ln.Nt} {w W W' : World} (h : HdI s a k X a5 k5 L w W) (hin : IsIn a (s.wait.length * 2) (Ln.fl s.wait) w) (hX : w.heap.size + 2 ≤ X) (hg : W.grownBy W' (Value.slice a5 L.length k5).ownBlock) (hown : W'.ownsRow (w.heap.size + 2) 39 2 (.slice a6 L'.length k6) L'.length (nvs L')) :
    W'.rowIs X 29 7 (rowN [.int .i64 s.unit, .int .i64 s.band, .bool s.seen, .int .i64 s.last, .int .i64 s.next, .slice a5 L.length k5, .int .i64 s.drops]) ∧ W'.rowIs w.heap.size 29 7 (rowN (stL s a k)) ∧ Below w.heap.size w W' ∧ HdI s a k X a6 k6 L' w (W'.setCell ⟨X, 5, none⟩ (.slice a6 L'.length k6)) := by
  have hs := h.bel.size
  have ob : ∀ q, (Value.slice a5 L.length k5).ownBlock = some q → w.heap.size + 2 ≤ q := fun q hq => (h.own.lt q hq).1
  have ox := own_ne h.own h.z (by decide)
  have hz : W'.rowIs X 29 7 (rowN [.int .i64 s.unit, .int .i64 s.band, .bool s.seen, .int .i64 s.last, .int .i64 s.next, .slice a5 L.length k5, .int .i64 s.drops]) := h.z.of_block (hg.block _ h.z.lt (fun e => ox e.symm))
  have hx := h.x.of_block (hg.block _ h.x.lt (fun e => by have := ob _ e.symm; omega))
  have hy := h.y.of_block (hg.block _ h.y.lt (fun e => by have := ob _ e.symm; omega))
  have hb : Below w.heap.size w W' := h.bel.grown hg (by omega) (fun q hq => by have := ob q hq; omega)
  have hb2 : Below w.heap.size w (W'.setCell ⟨X, 5, none⟩ (.slice a6 L'.length k6)) := hb.setCell (p := ⟨X, 5, none⟩) (by show w.heap.size ≤ X; omega) _
  have ne6 := own_ne hown hz (by decide)
  refine ⟨hz, hx, hb, ⟨nrow_set hx (p := ⟨X, 5, none⟩) (by show w.heap.size ≠ X; omega) _, nrow_set hy (p := ⟨X, 5, none⟩) (by show w.heap.size + 1 ≠ X; omega) _, rowN_put hz 5 _ (by simp), ⟨hown.1, ?_⟩, hin.below hb2, hb2⟩⟩
  rcases hown.2 with h2 | ⟨g, cap, cur, e1, e2, e3, e4⟩
  · exact Or.inl h2
  · exact Or.inr ⟨g, cap, cur, e1, e2, by rw [bihs _ _ _ (fun e => ne6 (by rw [e1, e]; rfl))]; exact e3, e4⟩
set_option maxRecDepth 100000 in
set_option maxHeartbeats 16000000 in
theorem specHeard_any (s : Ln.S) (a : Option Addr) (k : Nat) (q : Int) (w : World) (h : IsIn a (s.wait.length * 2) (Ln.fl s.wait) w) (hn : s.wait.length ≤ 1048576) :
    Calls Try.prog 15 #[stV s a k, .int .i64 q] w fun e w' => StEnd (s.heard q) w.heap.size e w' ∧ Below w.heap.size w w' := by
  obtain ⟨i0, hi, hz0, hz1, hz2⟩ := info_parts linfo_note
  obtain ⟨W, hW⟩ : ∃ W, W = (w.alloc (stO s a k)).alloc stZO := ⟨_, rfl⟩
  have hsz : W.heap.size = w.heap.size + 2 := by rw [hW]; simp
  have HB : Hid (Below w.heap.size w W) := by show Below _ _ _; rw [hW]; exact ((Below.refl _ _).alloc (Nat.le_refl _) _).alloc (by simp) _
  have HX : Hid (W.rowIs w.heap.size 29 7 (rowN (stL s a k))) := by show W.rowIs _ _ _ _; rw [hW]; exact nrow_below (rowN_alloc w (stL s a k) _) (nbel_alloc _ _)
  have HY : Hid (W.rowIs (w.heap.size + 1) 29 7 (rowN stZ)) := by show W.rowIs _ _ _ _; rw [hW]; exact rowN_alloc' (by simp) stZ _
  have H := Lib.hid (h.below HB.out)
  have HN := Lib.hid hn
  have HW := Lib.hid hW
  have HSZ := Lib.hid hsz
  have h0 := h
  clear hW h hsz
  go_enter Try.func15, Try.ntmps15
  go_wp2_with fail
  rw [← HW.out]
  clear HW
  refine (specCopy_any s a k _ H.out HN.out).mono ?_
  rintro e w1 ⟨⟨a1, k1, rfl, hown⟩, hb⟩
  rw [HSZ.out] at hown
  obtain ⟨X, hX⟩ : ∃ X, X = w1.heap.size := ⟨_, rfl⟩
  obtain ⟨W2, hW2⟩ : ∃ W2, W2 = w1.alloc (stO s a1 k1) := ⟨_, rfl⟩
  have hXs : w.heap.size + 2 ≤ X := by rw [hX]; have := hb.size; rw [HSZ.out] at this; exact this
  have hb2 : Below w1.heap.size w1 W2 := by rw [hW2]; exact nbel_alloc _ _
  have hb3 := hb.trans (hb2.mono hb.size)
  have HX2 := Lib.hid (nrow_below HX.out hb3)
  have HY2 := Lib.hid (nrow_below HY.out hb3)
  have HB2 : Hid (Below w.heap.size w W2) := HB.out.trans (hb3.mono HB.out.size)
  have HA2 := Lib.hid (H.out.below hb3)
  have HO2 := Lib.hid (ownsRow_bel hown hb2)
  have HZ2 : Hid (W2.rowIs X 29 7 (rowN (stL s a1 k1))) := by show World.rowIs _ _ _ _ _; rw [hW2, hX]; exact rowN_alloc w1 (stL s a1 k1) _
  have HW2 := Lib.hid hW2
  have HXE := Lib.hid hX
  clear hb hb2 hb3 hown hW2 hX H HB HX HY HSZ
  have HA0 := Lib.hid h0
  obtain ⟨⟨x0, x1, x2, x3, x4, x5, x6⟩, _⟩ := rowN7 HX2.out
  have hl0 := HX2.out.lt
  rw [HW2.out] at x0 x1 x2 x3 x4 x5 x6
  go_wp2_with fail
  rw [← HW2.out, ← HXE.out]
  clear HW2 HXE x0 x1 x2 x3 x4 x5 x6 hl0
  refine (specSRight_any s a k _ HA2.out (by have := HN.out; omega)).mono ?_
  rintro e W3 ⟨rfl, hbg⟩
  have hb := hbg.bel
  have HX3 := Lib.hid (nrow_below HX2.out hb)
  have HY3 := Lib.hid (nrow_below HY2.out hb)
  have HZ3 := Lib.hid (nrow_below HZ2.out hb)
  have HB3 : Hid (Below w.heap.size w W3) := HB2.out.trans (hb.mono HB2.out.size)
  have HO3 := Lib.hid (ownsRow_bel HO2.out hb)
  clear hb hbg HX2 HY2 HZ2 HB2 HA2 HO2
  obtain ⟨⟨x0, x1, x2, x3, x4, x5, x6⟩, f0, f1, f2, f3, f4, f5, f6⟩ := rowN7 HX3.out
  obtain ⟨⟨y0, y1, y2, y3, y4, y5, y6⟩, g0, g1, g2, g3, g4, g5, g6⟩ := rowN7 HY3.out
  obtain ⟨⟨z0, z1, z2, z3, z4, z5, z6⟩, p0, p1, p2, p3, p4, p5, p6⟩ := rowN7 HZ3.out
  have hl0 := HX3.out.lt
  have hl1 := HY3.out.lt
  have hl2 := HZ3.out.lt
  have hX0 : ¬ X = w.heap.size := by omega
  have hX1 : ¬ X = w.heap.size + 1 := by omega
  have hX0' : ¬ w.heap.size = X := by omega
  have hX1' : ¬ w.heap.size + 1 = X := by omega
  by_cases ct : s.Right
  case neg =>
    rw [lB_ff ct]
    have HE : Hid (s.heard q = s) := Ln.S.heard_no ct
    clear ct
    obtain ⟨a1', c1', e1, hq, _⟩ := own_ns HO3.out
    cases e1
    have HQ3 := Lib.hid hq
    clear hq
    have zr := Lib.hid (lput7 HY3.out rfl (.int .i64 s.unit) (.int .i64 s.band) (.bool s.seen) (.int .i64 s.last) (.int .i64 s.next) (.slice a1 s.wait.length k1) (.int .i64 s.drops))
    have zb := Lib.hid (lbel7 HB3.out (g := w.heap.size + 1) (by omega) (.int .i64 s.unit) (.int .i64 s.band) (.bool s.seen) (.int .i64 s.last) (.int .i64 s.next) (.slice a1 s.wait.length k1) (.int .i64 s.drops))
    have zq : Hid (NqOwn 39 w.heap.size s.wait.length a1 (Ln.fl s.wait) ((((((((W3.setCell ⟨w.heap.size + 1, 0, none⟩ (.int .i64 s.unit)).setCell ⟨w.heap.size + 1, 1, none⟩ (.int .i64 s.band)).setCell ⟨w.heap.size + 1, 2, none⟩ (.bool s.seen)).setCell ⟨w.heap.size + 1, 3, none⟩ (.int .i64 s.last)).setCell ⟨w.heap.size + 1, 4, none⟩ (.int .i64 s.next)).setCell ⟨w.heap.size + 1, 5, none⟩ (.slice a1 s.wait.length k1)).setCell ⟨w.heap.size + 1, 6, none⟩ (.int .i64 s.drops)))) := (HQ3.out.same (fun k hk _ => lblk7 (by omega) _ _ _ _ _ _ _)).low (by omega)
    go_wp2_with fail
    refine bodyPost_ret (v := stV s a1 k1) ?_ rfl ⟨by rw [HE.out]; exact ⟨a1, k1, rfl, zq.out⟩, zb.out⟩
    obtain ⟨⟨u0, u1, u2, u3, u4, u5, u6⟩, _⟩ := rowN7 zr.out
    simp only [results, Try.results15]
    simp [go_sem, u0, u1, u2, u3, u4, u5, u6]
  rw [lB_tt ct]
  have HE : Hid (s.heard q = ⟨s.unit, s.band, s.seen, s.last, s.next, Ln.left q s.wait, s.drops⟩) := Ln.S.heard_yes ct
  have hw40 : s.wait.length ≤ 40 := ct.2.1
  clear ct
  have hs3 : w.heap.size + 2 ≤ W3.heap.size := by omega
  obtain ⟨V3, hV3⟩ : ∃ V3, V3 = W3.setCell ⟨X, 5, none⟩ (.slice (some ⟨W3.heap.size, 0, none⟩) 0 0) := ⟨_, rfl⟩
  have s3 : V3.heap.size = W3.heap.size := by rw [hV3]; simp
  obtain ⟨W4, hW4⟩ : ∃ W4, W4 = V3.alloc (.cells #[] 39) := ⟨_, rfl⟩
  have hb4 : Below V3.heap.size V3 W4 := by rw [hW4]; exact nbel_alloc _ _
  have HST : Hid (HdI s a k X (some ⟨W3.heap.size, 0, none⟩) 0 [] w W4) := by
    have hbz : Below w.heap.size w V3 := by rw [hV3]; exact HB3.out.setCell (p := ⟨X, 5, none⟩) (by show w.heap.size ≤ X; omega) _
    have hbz2 : Below w.heap.size w W4 := hbz.trans (hb4.mono hbz.size)
    have o1 := World.ownsRow_made (e := 39) (size := 2) V3 #[] 0 (Nat.le_refl _) (Nat.zero_le _) rfl
    rw [← hW4, s3] at o1
    refine ⟨nrow_below (by rw [hV3]; exact nrow_set HX3.out (p := ⟨X, 5, none⟩) (by show w.heap.size ≠ X; omega) _) hb4, nrow_below (by rw [hV3]; exact nrow_set HY3.out (p := ⟨X, 5, none⟩) (by show w.heap.size + 1 ≠ X; omega) _) hb4, nrow_below (by rw [hV3]; exact rowN_put HZ3.out 5 _ (by simp)) hb4, ⟨o1.1, ?_⟩, HA0.out.below hbz2, hbz2⟩
    rcases o1.2 with h2 | ⟨g, cap, cur, e1, e2, e3⟩
    · exact Or.inl h2
    · exact Or.inr ⟨g, cap, cur, e1, by omega, e3⟩
  have HW4 := Lib.hid hW4
  obtain ⟨b0, hb0⟩ : ∃ b, b = W3.heap.size := ⟨_, rfl⟩
  rw [HW4.out, hV3] at HST
  rw [← hb0] at HST
  have HB0 := Lib.hid hb0
  clear hW4 hb4 hb0 HW4 hV3 s3 HX3 HY3 HZ3 HB3 HO3
  go_wp2_with fail
  rw [← HB0.out]
  clear HB0 x0 x1 x2 x3 x4 x5 x6 f0 f1 f2 f3 f4 f5 f6 y0 y1 y2 y3 y4 y5 y6 g0 g1 g2 g3 g4 g5 g6 z0 z1 z2 z3 z4 z5 z6 p0 p1 p2 p3 p4 p5 p6 hl0 hl1 hl2 hs3
  obtain ⟨N, hN⟩ : ∃ N, N = s.wait.length := ⟨_, rfl⟩
  have HNN := Lib.hid hN
  rw [hN.symm] at hw40
  clear hN
  go_loopw [6] (fun iv wr => ∃ (i : Nat) (a5 : Option Addr) (k5 : Nat), i ≤ N ∧ iv = .int .i64 i ∧ Hid (HdI s a k X a5 k5 (Ln.left q (s.wait.take i)) w wr)) (fun iv _ => N - (intOf iv).toNat)
  case atStart => exact ⟨0, _, _, Nat.zero_le _, rfl, HST⟩
  case round =>
    obtain ⟨i, a5, k5, hiN, rfl, hS⟩ := hrel
    clear HST
    obtain ⟨L, hL⟩ : ∃ L, L = Ln.left q (s.wait.take i) := ⟨_, rfl⟩
    rw [← hL] at hS
    have HL := Lib.hid hL
    have HLL : Hid (L.length ≤ 40) := by show _ ≤ _; rw [hL]; have := Ln.left_len q (s.wait.take i); rw [List.length_take] at this; omega
    clear hL
    obtain ⟨M, hM⟩ : ∃ M, M = L.length := ⟨_, rfl⟩
    have HM := Lib.hid hM
    obtain ⟨⟨x0, x1, x2, x3, x4, x5, x6⟩, f0, f1, f2, f3, f4, f5, f6⟩ := rowN7 hS.out.x
    obtain ⟨⟨y0, y1, y2, y3, y4, y5, y6⟩, g0, g1, g2, g3, g4, g5, g6⟩ := rowN7 hS.out.y
    obtain ⟨⟨z0, z1, z2, z3, z4, z5, z6⟩, p0, p1, p2, p3, p4, p5, p6⟩ := rowN7 hS.out.z
    have hl0 := hS.out.x.lt
    have hl1 := hS.out.y.lt
    have hl2 := hS.out.z.lt
    rw [← hM] at z5
    rw [← HNN.out] at x5
    clear hM
    by_cases hlt : i < N
    · have hltz : (i : Int) < (N : Int) := by omega
      have HIL : Hid (i < s.wait.length) := by show _ < _; rw [← HNN.out]; exact hlt
      obtain ⟨b, o, rfl, c0, c1⟩ := hS.out.inn.at2 HIL.out
      obtain ⟨x, hx⟩ : ∃ x, x = Ln.fl s.wait (i * 2) := ⟨_, rfl⟩
      obtain ⟨y, hy⟩ : ∃ y, y = Ln.fl s.wait (i * 2 + 1) := ⟨_, rfl⟩
      rw [← hx] at c0
      rw [← hy] at c1
      have HX := Lib.hid hx
      have HY := Lib.hid hy
      have BLT : Hid (b < w.heap.size) := by
        obtain ⟨b', o', e', hc, _⟩ := HA0.out.at2 HIL.out
        cases e'
        exact World.block_lt_of_cell? _ _ hc
      clear hx hy
      by_cases cx : x ≤ q
      · have HE2 : Hid (Ln.left q (s.wait.take (i + 1)) = L) := by show _ = _; rw [Ln.left_take HIL.out, if_neg (by rw [← HX.out]; omega), List.append_nil, HL.out]
        have hcx : ¬ q < x := by omega
        clear cx
        go_wp2_with fail
        go_roundw
        case rel => exact ⟨i + 1, a5, k5, by omega, by go_num, by rw [HE2.out]; exact hS⟩
        case measure => simp [intOf]; omega
      have hcx : q < x := by omega
      have HE2 : Hid (Ln.left q (s.wait.take (i + 1)) = L ++ [(x, y)]) := by show _ = _; rw [Ln.left_take HIL.out, if_pos (by rw [← HX.out]; omega), HL.out, ← HX.out, ← HY.out]
      clear cx
      clear x0 x1 x2 x3 x4 x6 f0 f1 f2 f3 f4 f5 f6 y0 y1 y2 y3 y4 y5 y6 g0 g1 g2 g3 g4 g5 g6 z0 z1 z2 z3 z4 z6 p0 p1 p2 p3 p4 p5 p6 z5
      go_wp2_with fail
      refine wp_region_held_drew (S := fun V => V.rowIs w.heap.size 29 7 (rowN (stL s (some ⟨b, o, none⟩) k)) ∧ V.cell? ⟨b, o + i * 2, none⟩ = some (.int .i64 x) ∧ V.cell? ⟨b, o + i * 2 + 1, none⟩ = some (.int .i64 y) ∧ b ≠ X ∧ Below w.heap.size w V) (by kernel_rfl) ⟨hS.out.x.of_block rfl, c0, c1, ?_, hS.out.bel.drew⟩ (fun hHeld => ?_)
      · have := BLT.out
        omega
      obtain ⟨Z, hZ⟩ : ∃ Z, Z = wr.drew := ⟨_, rfl⟩
      have SZ : Hid (HdI s (some ⟨b, o, none⟩) k X a5 k5 L w Z) := by show HdI _ _ _ _ _ _ _ _ _; rw [hZ]; exact hS.out.below (Below.refl _ _).drew
      rw [← hZ] at hHeld ⊢
      clear hZ hS x5 c0 c1 hl0 hl1 hl2
      refine take_do (i := 0) (v := (.pointer (some ⟨X, 5, none⟩))) rfl (by kernel_rfl) (by kernel_rfl) (by kernel_rfl) (fun _ _ _ h => h) (by rfl) ?_ (by assumption) ?_
      · intro w hSw
        go_simp
      simp only [Act.put, List.setIfInBounds_toArray, List.set_cons_zero, List.set_cons_succ]
      refine take_do (i := 2) (v := (.pointer (some ⟨w.heap.size, 5, none⟩))) rfl (by kernel_rfl) (by kernel_rfl) (by kernel_rfl) (fun _ _ _ h => h) (by rfl) ?_ (by assumption) ?_
      · intro w hSw
        go_simp
      simp only [Act.put, List.setIfInBounds_toArray, List.set_cons_zero, List.set_cons_succ]
      refine take_do (i := 3) (v := (.slice (some ⟨b, o, none⟩) N k)) rfl (by kernel_rfl) (by kernel_rfl) (by kernel_rfl) (fun _ _ _ h => h) (by rfl) ?_ (by assumption) ?_
      · intro w hSw
        obtain ⟨⟨r0, r1, r2, r3, r4, r5, r6⟩, _⟩ := rowN7 hSw.1
        rw [← HNN.out] at r5
        obtain ⟨_, q0, q1, _⟩ := hSw
        go_simp
      simp only [Act.put, List.setIfInBounds_toArray, List.set_cons_zero, List.set_cons_succ]
      refine take_do (i := 4) (v := (.int .i64 i)) rfl (by kernel_rfl) (by kernel_rfl) (by kernel_rfl) (fun _ _ _ h => h) (by rfl) ?_ (by assumption) ?_
      · intro w hSw
        go_simp
      simp only [Act.put, List.setIfInBounds_toArray, List.set_cons_zero, List.set_cons_succ]
      refine take_do (i := 5) (v := (.pointer (some ⟨b, o + i * 2, none⟩))) rfl (by kernel_rfl) (by kernel_rfl) (by kernel_rfl) (fun _ _ _ h => h) (by rfl) ?_ (by assumption) ?_
      · intro w hSw
        go_simp
      simp only [Act.put, List.setIfInBounds_toArray, List.set_cons_zero, List.set_cons_succ]
      refine take_do (i := 6) (v := (.agg #[.int .i64 x, .int .i64 y])) rfl (by kernel_rfl) (by kernel_rfl) (by kernel_rfl) (fun _ _ _ h => h) (by rfl) ?_ (by assumption) ?_
      · intro w hSw
        obtain ⟨⟨r0, r1, r2, r3, r4, r5, r6⟩, _⟩ := rowN7 hSw.1
        rw [← HNN.out] at r5
        obtain ⟨_, q0, q1, _⟩ := hSw
        go_simp
      simp only [Act.put, List.setIfInBounds_toArray, List.set_cons_zero, List.set_cons_succ]
      refine wpAnyH_ready (rs := [1, 7]) (by kernel_rfl) (by simp) (AllReadyH.cons (at_drop (i := 1) rfl) (fun K2 hK => ?_) (AllReadyH.cons (at_drop (i := 7) rfl) (fun K2 hK => ?_) AllReadyH.nil))
      · obtain ⟨⟨z0, z1, z2, z3, z4, z5, z6⟩, _⟩ := rowN7 SZ.out.z
        rw [← HM.out] at z5
        go_simp
        refine hK.out _ _ hHeld (fun hHeld2 => ?_)
        clear hK hHeld z0 z1 z2 z3 z4 z5 z6
        have hHeld := hHeld2
        clear hHeld2
        refine take_call (i := 7) rfl (by kernel_rfl) (fun K2 hK => ?_)
        obtain ⟨Z1, hZ1⟩ : ∃ Z1, Z1 = Z.alloc (.cells #[.int .i64 x, .int .i64 y] 39) := ⟨_, rfl⟩
        have hb : Below Z.heap.size Z Z1 := by rw [hZ1]; exact nbel_alloc _ _
        obtain ⟨gx, hgx⟩ : ∃ gx, gx = Z.heap.size := ⟨_, rfl⟩
        have HM1 : Hid (IsIn (some ⟨gx, 0, none⟩) (([(x, y)] : List Ln.Nt).length * 2) (Ln.fl [(x, y)]) Z1) := by show IsIn _ _ _ _; rw [hZ1, hgx]; exact one_in Z 39 x y
        have SZ1 := Lib.hid (SZ.out.below hb)
        have hq : (fun V => V.rowIs w.heap.size 29 7 (rowN (stL s (some ⟨b, o, none⟩) k)) ∧ V.cell? ⟨b, o + i * 2, none⟩ = some (.int .i64 x) ∧ V.cell? ⟨b, o + i * 2 + 1, none⟩ = some (.int .i64 y) ∧ b ≠ X ∧ Below w.heap.size w V) Z1 := ⟨nrow_below hHeld.1 hb, (hb.cell (World.block_lt_of_cell? _ _ hHeld.2.1)).trans hHeld.2.1, (hb.cell (World.block_lt_of_cell? _ _ hHeld.2.2.1)).trans hHeld.2.2.1, hHeld.2.2.2.1, hHeld.2.2.2.2.trans (hb.mono hHeld.2.2.2.2.size)⟩
        go_simp
        rw [← hZ1, ← hgx]
        refine hK.out _ _ hq (fun hHeld2 => ?_)
        clear hK hHeld hb hq hZ1 hgx
        have hHeld := hHeld2
        clear hHeld2
        refine take_call (i := 8) rfl (by kernel_rfl) (fun K2 hK => ?_)
        have hsz := SZ1.out.x.lt
        have hsy := SZ1.out.y.lt
        refine step_append_ns rfl (.tmp 31) (.tmp 37) 27 rfl 39 i0 (.agg #[.int .i64 0, .int .i64 0]) 16 Try.underlying27 hi hz0 hz1 hz2 rfl (w.heap.size + 2) (.slice a5 M k5) L [(x, y)] rfl (by rw [HM.out]; exact SZ1.out.own) (some ⟨gx, 0, none⟩) 1 rfl HM1.out (by unfold maxLen; have := HLL.out; simp; omega) (by have := HLL.out; simp; omega) (by omega) ?_
        intro v6 Z2 hown hgrow
        obtain ⟨L2, hL2⟩ : ∃ L2, L2 = L ++ [(x, y)] := ⟨_, rfl⟩
        have hown2 : Z2.ownsRow (w.heap.size + 2) 39 2 v6 L2.length (nvs L2) := by rw [hL2]; exact hown
        rw [HM.out] at hgrow
        obtain ⟨a6, k6, rfl, _, _⟩ := own_ns hown2
        obtain ⟨hzr, hxr, hbl, hpush⟩ := SZ1.out.push HA0.out hXs hgrow hown2
        have HPU := Lib.hid hpush
        have hcc : ∀ c v, Z1.cell? ⟨b, c, none⟩ = some v → Z2.cell? ⟨b, c, none⟩ = some v := fun c v hv => by
          have hlb := BLT.out
          have e1 := SZ1.out.bel.block b hlb
          have e2 := hbl.block b hlb
          rw [World.cell?_of_block (a := ⟨b, c, none⟩) (e2.trans e1.symm)]
          exact hv
        have hq : (fun V => V.rowIs w.heap.size 29 7 (rowN (stL s (some ⟨b, o, none⟩) k)) ∧ V.cell? ⟨b, o + i * 2, none⟩ = some (.int .i64 x) ∧ V.cell? ⟨b, o + i * 2 + 1, none⟩ = some (.int .i64 y) ∧ b ≠ X ∧ Below w.heap.size w V) Z2 := ⟨hxr, hcc _ _ hHeld.2.1, hcc _ _ hHeld.2.2.1, hHeld.2.2.2.1, hbl⟩
        have HZR := Lib.hid hzr
        refine hK.out _ _ hq (fun hHeld2 => ?_)
        clear hK hHeld hq hown hown2 hgrow hxr hbl hpush hcc SZ SZ1 HM1 hsz hsy hzr
        have hHeld := hHeld2
        clear hHeld2
        simp only [Act.put, List.setIfInBounds_toArray, List.set_cons_zero, List.set_cons_succ]
        refine take_do (i := 9) (v := (.pointer (some ⟨X, 5, none⟩))) rfl (by kernel_rfl) (by kernel_rfl) (by kernel_rfl) (fun _ _ _ h => h) (by rfl) ?_ (by assumption) ?_
        · intro w hSw
          go_simp
        simp only [Act.put, List.setIfInBounds_toArray, List.set_cons_zero, List.set_cons_succ]
        obtain ⟨⟨z0, z1, z2, z3, z4, z5, z6⟩, p0, p1, p2, p3, p4, p5, p6⟩ := rowN7 HZR.out
        have hl2 := HZR.out.lt
        obtain ⟨WZ, hWZ⟩ : ∃ WZ, WZ = Z2.setCell ⟨X, 5, none⟩ (.slice a6 L2.length k6) := ⟨_, rfl⟩
        have SF : Hid (HdI s (some ⟨b, o, none⟩) k X a6 k6 L2 w WZ) := by show HdI _ _ _ _ _ _ _ _ _; rw [hWZ]; exact HPU.out
        have hq : (fun V => V.rowIs w.heap.size 29 7 (rowN (stL s (some ⟨b, o, none⟩) k)) ∧ V.cell? ⟨b, o + i * 2, none⟩ = some (.int .i64 x) ∧ V.cell? ⟨b, o + i * 2 + 1, none⟩ = some (.int .i64 y) ∧ b ≠ X ∧ Below w.heap.size w V) WZ := by
          refine ⟨SF.out.x, ?_, ?_, hHeld.2.2.2.1, SF.out.bel⟩
          · rw [hWZ, World.cell?_setCell_other _ _ _ _ (by intro h2; have := congrArg Addr.block h2; simp at this; exact hHeld.2.2.2.1 this.symm)]; exact hHeld.2.1
          · rw [hWZ, World.cell?_setCell_other _ _ _ _ (by intro h2; have := congrArg Addr.block h2; simp at this; exact hHeld.2.2.2.1 this.symm)]; exact hHeld.2.2.1
        have HWZ := Lib.hid hWZ
        have HL2 := Lib.hid hL2
        obtain ⟨M2, hM2⟩ : ∃ M2, M2 = L2.length := ⟨_, rfl⟩
        rw [← hM2] at HWZ ⊢
        clear hWZ hL2 hM2
        refine take_call (i := 10) rfl (by kernel_rfl) (fun K2 hK => ?_)
        go_simp
        rw [← HWZ.out]
        refine hK.out _ _ hq (fun hHeld2 => ?_)
        clear hK hHeld hHeld2 HWZ z0 z1 z2 z3 z4 z5 z6 p0 p1 p2 p3 p4 p5 p6 hl2 hq HPU HZR
        refine wpAnyH_done (by kernel_rfl) ?_ _
        go_wp2_with fail
        go_roundw
        case rel => exact ⟨i + 1, a6, k6, by omega, by go_num, by rw [HE2.out, ← HL2.out]; exact SF⟩
        case measure => simp [intOf]; omega
      · obtain ⟨Z1, hZ1⟩ : ∃ Z1, Z1 = Z.alloc (.cells #[.int .i64 x, .int .i64 y] 39) := ⟨_, rfl⟩
        have hb : Below Z.heap.size Z Z1 := by rw [hZ1]; exact nbel_alloc _ _
        obtain ⟨gx, hgx⟩ : ∃ gx, gx = Z.heap.size := ⟨_, rfl⟩
        have HM1 : Hid (IsIn (some ⟨gx, 0, none⟩) (([(x, y)] : List Ln.Nt).length * 2) (Ln.fl [(x, y)]) Z1) := by show IsIn _ _ _ _; rw [hZ1, hgx]; exact one_in Z 39 x y
        have SZ1 := Lib.hid (SZ.out.below hb)
        have hq : (fun V => V.rowIs w.heap.size 29 7 (rowN (stL s (some ⟨b, o, none⟩) k)) ∧ V.cell? ⟨b, o + i * 2, none⟩ = some (.int .i64 x) ∧ V.cell? ⟨b, o + i * 2 + 1, none⟩ = some (.int .i64 y) ∧ b ≠ X ∧ Below w.heap.size w V) Z1 := ⟨nrow_below hHeld.1 hb, (hb.cell (World.block_lt_of_cell? _ _ hHeld.2.1)).trans hHeld.2.1, (hb.cell (World.block_lt_of_cell? _ _ hHeld.2.2.1)).trans hHeld.2.2.1, hHeld.2.2.2.1, hHeld.2.2.2.2.trans (hb.mono hHeld.2.2.2.2.size)⟩
        go_simp
        rw [← hZ1, ← hgx]
        refine hK.out _ _ hq (fun hHeld2 => ?_)
        clear hK hHeld hb hq hZ1 hgx
        have hHeld := hHeld2
        clear hHeld2
        refine take_call (i := 1) rfl (by kernel_rfl) (fun K2 hK => ?_)
        obtain ⟨⟨z0, z1, z2, z3, z4, z5, z6⟩, _⟩ := rowN7 SZ1.out.z
        rw [← HM.out] at z5
        go_simp
        refine hK.out _ _ hHeld (fun hHeld2 => ?_)
        clear hK hHeld z0 z1 z2 z3 z4 z5 z6
        have hHeld := hHeld2
        clear hHeld2
        refine take_call (i := 8) rfl (by kernel_rfl) (fun K2 hK => ?_)
        have hsz := SZ1.out.x.lt
        have hsy := SZ1.out.y.lt
        refine step_append_ns rfl (.tmp 31) (.tmp 37) 27 rfl 39 i0 (.agg #[.int .i64 0, .int .i64 0]) 16 Try.underlying27 hi hz0 hz1 hz2 rfl (w.heap.size + 2) (.slice a5 M k5) L [(x, y)] rfl (by rw [HM.out]; exact SZ1.out.own) (some ⟨gx, 0, none⟩) 1 rfl HM1.out (by unfold maxLen; have := HLL.out; simp; omega) (by have := HLL.out; simp; omega) (by omega) ?_
        intro v6 Z2 hown hgrow
        obtain ⟨L2, hL2⟩ : ∃ L2, L2 = L ++ [(x, y)] := ⟨_, rfl⟩
        have hown2 : Z2.ownsRow (w.heap.size + 2) 39 2 v6 L2.length (nvs L2) := by rw [hL2]; exact hown
        rw [HM.out] at hgrow
        obtain ⟨a6, k6, rfl, _, _⟩ := own_ns hown2
        obtain ⟨hzr, hxr, hbl, hpush⟩ := SZ1.out.push HA0.out hXs hgrow hown2
        have HPU := Lib.hid hpush
        have hcc : ∀ c v, Z1.cell? ⟨b, c, none⟩ = some v → Z2.cell? ⟨b, c, none⟩ = some v := fun c v hv => by
          have hlb := BLT.out
          have e1 := SZ1.out.bel.block b hlb
          have e2 := hbl.block b hlb
          rw [World.cell?_of_block (a := ⟨b, c, none⟩) (e2.trans e1.symm)]
          exact hv
        have hq : (fun V => V.rowIs w.heap.size 29 7 (rowN (stL s (some ⟨b, o, none⟩) k)) ∧ V.cell? ⟨b, o + i * 2, none⟩ = some (.int .i64 x) ∧ V.cell? ⟨b, o + i * 2 + 1, none⟩ = some (.int .i64 y) ∧ b ≠ X ∧ Below w.heap.size w V) Z2 := ⟨hxr, hcc _ _ hHeld.2.1, hcc _ _ hHeld.2.2.1, hHeld.2.2.2.1, hbl⟩
        have HZR := Lib.hid hzr
        refine hK.out _ _ hq (fun hHeld2 => ?_)
        clear hK hHeld hq hown hown2 hgrow hxr hbl hpush hcc SZ SZ1 HM1 hsz hsy hzr
        have hHeld := hHeld2
        clear hHeld2
        simp only [Act.put, List.setIfInBounds_toArray, List.set_cons_zero, List.set_cons_succ]
        refine take_do (i := 9) (v := (.pointer (some ⟨X, 5, none⟩))) rfl (by kernel_rfl) (by kernel_rfl) (by kernel_rfl) (fun _ _ _ h => h) (by rfl) ?_ (by assumption) ?_
        · intro w hSw
          go_simp
        simp only [Act.put, List.setIfInBounds_toArray, List.set_cons_zero, List.set_cons_succ]
        obtain ⟨⟨z0, z1, z2, z3, z4, z5, z6⟩, p0, p1, p2, p3, p4, p5, p6⟩ := rowN7 HZR.out
        have hl2 := HZR.out.lt
        obtain ⟨WZ, hWZ⟩ : ∃ WZ, WZ = Z2.setCell ⟨X, 5, none⟩ (.slice a6 L2.length k6) := ⟨_, rfl⟩
        have SF : Hid (HdI s (some ⟨b, o, none⟩) k X a6 k6 L2 w WZ) := by show HdI _ _ _ _ _ _ _ _ _; rw [hWZ]; exact HPU.out
        have hq : (fun V => V.rowIs w.heap.size 29 7 (rowN (stL s (some ⟨b, o, none⟩) k)) ∧ V.cell? ⟨b, o + i * 2, none⟩ = some (.int .i64 x) ∧ V.cell? ⟨b, o + i * 2 + 1, none⟩ = some (.int .i64 y) ∧ b ≠ X ∧ Below w.heap.size w V) WZ := by
          refine ⟨SF.out.x, ?_, ?_, hHeld.2.2.2.1, SF.out.bel⟩
          · rw [hWZ, World.cell?_setCell_other _ _ _ _ (by intro h2; have := congrArg Addr.block h2; simp at this; exact hHeld.2.2.2.1 this.symm)]; exact hHeld.2.1
          · rw [hWZ, World.cell?_setCell_other _ _ _ _ (by intro h2; have := congrArg Addr.block h2; simp at this; exact hHeld.2.2.2.1 this.symm)]; exact hHeld.2.2.1
        have HWZ := Lib.hid hWZ
        have HL2 := Lib.hid hL2
        obtain ⟨M2, hM2⟩ : ∃ M2, M2 = L2.length := ⟨_, rfl⟩
        rw [← hM2] at HWZ ⊢
        clear hWZ hL2 hM2
        refine take_call (i := 10) rfl (by kernel_rfl) (fun K2 hK => ?_)
        go_simp
        rw [← HWZ.out]
        refine hK.out _ _ hq (fun hHeld2 => ?_)
        clear hK hHeld hHeld2 HWZ z0 z1 z2 z3 z4 z5 z6 p0 p1 p2 p3 p4 p5 p6 hl2 hq HPU HZR
        refine wpAnyH_done (by kernel_rfl) ?_ _
        go_wp2_with fail
        go_roundw
        case rel => exact ⟨i + 1, a6, k6, by omega, by go_num, by rw [HE2.out, ← HL2.out]; exact SF⟩
        case measure => simp [intOf]; omega
    · obtain rfl : i = N := by omega
      have HLE : Hid (L = Ln.left q s.wait) := by show _ = _; rw [HL.out, HNN.out, List.take_length]
      obtain ⟨a5', k5', e5, hq5, _⟩ := own_ns hS.out.own
      cases e5
      have HQ5 := Lib.hid hq5
      have HBV := Lib.hid hS.out.bel
      have HYV := Lib.hid hS.out.y
      clear hq5
      have zr := Lib.hid (lput7 HYV.out rfl (.int .i64 s.unit) (.int .i64 s.band) (.bool s.seen) (.int .i64 s.last) (.int .i64 s.next) (.slice a5 M k5) (.int .i64 s.drops))
      have zb := Lib.hid (lbel7 HBV.out (g := w.heap.size + 1) (by omega) (.int .i64 s.unit) (.int .i64 s.band) (.bool s.seen) (.int .i64 s.last) (.int .i64 s.next) (.slice a5 M k5) (.int .i64 s.drops))
      have zq : Hid (NqOwn 39 w.heap.size L.length a5 (Ln.fl L) ((((((((wr.setCell ⟨w.heap.size + 1, 0, none⟩ (.int .i64 s.unit)).setCell ⟨w.heap.size + 1, 1, none⟩ (.int .i64 s.band)).setCell ⟨w.heap.size + 1, 2, none⟩ (.bool s.seen)).setCell ⟨w.heap.size + 1, 3, none⟩ (.int .i64 s.last)).setCell ⟨w.heap.size + 1, 4, none⟩ (.int .i64 s.next)).setCell ⟨w.heap.size + 1, 5, none⟩ (.slice a5 M k5)).setCell ⟨w.heap.size + 1, 6, none⟩ (.int .i64 s.drops)))) := (HQ5.out.same (fun k hk _ => lblk7 (by omega) _ _ _ _ _ _ _)).low (by omega)
      go_wp2_with fail
      refine bodyPost_ret (v := stV ⟨s.unit, s.band, s.seen, s.last, s.next, L, s.drops⟩ a5 k5) ?_ rfl ⟨by rw [HE.out, ← HLE.out]; exact ⟨a5, k5, rfl, zq.out⟩, zb.out⟩
      obtain ⟨⟨u0, u1, u2, u3, u4, u5, u6⟩, _⟩ := rowN7 zr.out
      simp only [results, Try.results15]
      simp only [stV, ← HM.out]
      simp [go_sem, u0, u1, u2, u3, u4, u5, u6]
end Go.Proofs.Ytmphjkpiookioaa
