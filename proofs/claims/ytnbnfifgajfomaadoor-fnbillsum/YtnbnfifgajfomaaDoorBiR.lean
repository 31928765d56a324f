/-
  Right bills: the program's.
-/
import Derived.Test.YtnbnfifgajfomaaDoorBiMi
import Derived.Deep.DeepCutAuto
import Derived.BigQuiet
namespace Go.Proofs.YtnbnfifgajfomaaDoor
open Go.RowKit Go.Deep

theorem bput7 {W : World} {g : Nat} {T : TypeId} {l : List Value} (h : W.rowIs g T 7 (rowN l)) (hl : l.length = 7) (v0 v1 v2 v3 v4 v5 v6 : Value) :
    (((((((W.setCell ⟨g, 0, none⟩ v0).setCell ⟨g, 1, none⟩ v1).setCell ⟨g, 2, none⟩ v2).setCell ⟨g, 3, none⟩ v3).setCell ⟨g, 4, none⟩ v4).setCell ⟨g, 5, none⟩ v5).setCell ⟨g, 6, none⟩ v6).rowIs g T 7 (rowN [v0, v1, v2, v3, v4, v5, v6]) := by
  match l, hl with
  | [_, _, _, _, _, _, _], _ => exact bl7 h v0 v1 v2 v3 v4 v5 v6
theorem bblk7 {W : World} {g j : Nat} (h : j ≠ g) (v0 v1 v2 v3 v4 v5 v6 : Value) :
    (((((((W.setCell ⟨g, 0, none⟩ v0).setCell ⟨g, 1, none⟩ v1).setCell ⟨g, 2, none⟩ v2).setCell ⟨g, 3, none⟩ v3).setCell ⟨g, 4, none⟩ v4).setCell ⟨g, 5, none⟩ v5).setCell ⟨g, 6, none⟩ v6).heap[j]? = W.heap[j]? := bl7o h v0 v1 v2 v3 v4 v5 v6
theorem bbel7 {W w : World} {g B : Nat} (h : Below B w W) (hg : B ≤ g) (v0 v1 v2 v3 v4 v5 v6 : Value) :
    Below B w (((((((W.setCell ⟨g, 0, none⟩ v0).setCell ⟨g, 1, none⟩ v1).setCell ⟨g, 2, none⟩ v2).setCell ⟨g, 3, none⟩ v3).setCell ⟨g, 4, none⟩ v4).setCell ⟨g, 5, none⟩ v5).setCell ⟨g, 6, none⟩ v6) := bl7b h hg v0 v1 v2 v3 v4 v5 v6
set_option maxRecDepth 100000 in
set_option maxHeartbeats 2000000 in
theorem daysOf_any (t : Bi.T) (a : Option Addr) (k : Nat) (z : Bi.Bi) (b : Option Addr) (kb : Nat) (w : World) (hz : -9223372036854775808 ≤ z.b.days ∧ z.b.days ≤ 9223372036854775807) :
    Calls Tryd.prog 43 #[tfV t a k, blV z.b z.n b kb] w fun e w' => (∃ d, e = .returned (.int .i64 d) ∧ (Bi.Right t → d = Bi.daysOf t z)) ∧ Below w.heap.size w w' := by
  have HB := Lib.hid ((nbel_alloc w (.cells #[.int .i64 t.day, .slice a t.bn k, .int .i64 t.sew, .int .i64 t.tax] 25)).alloc (by simp) (.cells #[.int .i64 z.b.days, .slice b z.n kb, .int .i64 z.b.sew, .int .i64 z.b.net, .int .i64 z.b.tax, .int .i64 z.b.gross, .int .i64 z.b.code] 30))
  by_cases h0 : t.day = 0
  · have e0 : (t.day == 0) = true := by simp [h0]
    have HE : Hid (Bi.daysOf t z = 0) := by show _ = _; unfold Bi.daysOf; rw [if_pos h0]
    clear h0
    go_enter Tryd.func43, Tryd.ntmps43
    go_wp2_with fail
    go_ret
    exact ⟨⟨0, rfl, fun _ => HE.out.symm⟩, HB.out⟩
  · have e0 : (t.day == 0) = false := by simp [h0]
    have HE : Hid (Bi.Right t → wrap64 (z.b.days.tdiv t.day) = Bi.daysOf t z) := fun hr => by
      unfold Bi.daysOf
      rw [if_neg h0]
      have h1 := hr.1
      have h5 : (-z.b.days).tdiv t.day = -(z.b.days.tdiv t.day) := Int.neg_tdiv _ _
      have h6 : 0 ≤ z.b.days → 0 ≤ z.b.days.tdiv t.day := fun h => Int.tdiv_nonneg h h1.1
      have h7 : z.b.days ≤ 0 → 0 ≤ -(z.b.days.tdiv t.day) := fun h => by rw [← h5]; exact Int.tdiv_nonneg (by omega) h1.1
      have h3 : (z.b.days.tdiv t.day).natAbs ≤ z.b.days.natAbs := by rw [Int.natAbs_tdiv]; exact Nat.div_le_self _ _
      have h8 : -9223372036854775808 ≤ z.b.days.tdiv t.day ∧ z.b.days.tdiv t.day ≤ 9223372036854775807 := by
        rcases Int.le_total 0 z.b.days with h | h
        · have := h6 h; omega
        · have := h7 h; omega
      unfold wrap64
      omega
    have h00 : t.day ≠ 0 := h0
    go_enter Tryd.func43, Tryd.ntmps43
    go_wp2_with fail
    go_ret
    exact ⟨⟨_, rfl, HE.out⟩, HB.out⟩
set_option maxRecDepth 100000 in
set_option maxHeartbeats 2000000 in
theorem amounts_any (X : Bi.Bl) (n : Nat) (a : Option Addr) (k : Nat) (w : World) :
    Calls Tryd.prog 44 #[blV X n a k] w fun e w' => e = .returned (.agg #[.int .i64 X.days, .int .i64 X.sew, .int .i64 X.net, .int .i64 X.tax, .int .i64 X.gross, .int .i64 X.code]) ∧ Below w.heap.size w w' := by
  go_enter Tryd.func44, Tryd.ntmps44
  go_wp2_with fail
  exact bodyPost_ret (v := .agg #[.int .i64 X.days, .int .i64 X.sew, .int .i64 X.net, .int .i64 X.tax, .int .i64 X.gross, .int .i64 X.code]) (by simp only [results, Tryd.results44]; simp [go_sem]) rfl ⟨rfl, (nbel_alloc _ _).alloc (by simp) _⟩
def sameB (f g : Nat → Int) : Nat → Bool
  | 0 => true
  | i + 1 => sameB f g i && decide (f i = g i)
theorem sameB_iff {f g : Nat → Int} : ∀ {n : Nat}, sameB f g n = true ↔ ∀ i, i < n → f i = g i
  | 0 => by simp [sameB]
  | n + 1 => by
    show (sameB f g n && decide (f n = g n)) = true ↔ _
    rw [Bool.and_eq_true, sameB_iff (n := n), decide_eq_true_iff]
    constructor
    · rintro ⟨h1, h2⟩ i hi
      by_cases e : i = n
      · rw [e]; exact h2
      · exact h1 i (by omega)
    · intro h
      exact ⟨fun i hi => h i (by omega), h n (by omega)⟩
theorem sameB_no {f g : Nat → Int} {n i : Nat} (hi : i < n) (h : f i ≠ g i) : sameB f g n = false := by
  cases hb : sameB f g n with
  | false => rfl
  | true => exact absurd (sameB_iff.1 hb i hi) h
theorem bndrewN {B : Nat} {w W : World} (h : Below B w W) (n : Nat) : Below B w (W.drewN n) := ⟨h.os, h.tape, h.output, h.size, h.block⟩
set_option maxRecDepth 100000 in
set_option maxHeartbeats 2000000 in
theorem bequal_any (a b : Option Addr) (n ca cb : Nat) (f g : Nat → Int) (w : World) (h1 : IsIn a n f w) (h2 : IsIn b n g w) (hn : n ≤ 1048576) :
    Calls Tryd.prog 45 #[.slice a n ca, .slice b n cb] w fun e w' => e = .returned (.bool (sameB f g n)) ∧ Below w.heap.size w w' := by
  have hne : ((n : Int) != (n : Int)) = false := by simp
  have H1 := Lib.hid h1
  have H2 := Lib.hid h2
  clear h1 h2
  go_enter Tryd.func45, Tryd.ntmps45
  go_wp2_with fail
  go_loopw [13] (fun iv wr => ∃ (i : Nat), i ≤ n ∧ iv = .int .i64 i ∧ sameB f g i = true ∧ Hid (Below w.heap.size w wr)) (fun iv _ => n - (intOf iv).toNat)
  case atStart => exact ⟨0, Nat.zero_le _, rfl, rfl, Below.refl _ _⟩
  case round =>
    obtain ⟨i, hi, rfl, hsm, hB⟩ := hrel
    by_cases hlt : i < n
    · have hltz : (i : Int) < (n : Int) := by omega
      have hi00 : (0 : Int) ≤ (i : Int) := by omega
      obtain ⟨g1, o1, rfl, k1⟩ := (H1.out.below hB.out).at1 hlt
      obtain ⟨g2, o2, rfl, k2⟩ := (H2.out.below hB.out).at1 hlt
      by_cases hq : f i = g i
      · have HY : Hid (sameB f g (i + 1) = true) := by show (sameB f g i && decide (f i = g i)) = true; rw [hsm, decide_eq_true hq]; rfl
        have hq2 : (f i != g i) = false := by simp [hq]
        rw [hq] at k1
        clear hq
        go_wp2_with fail
        go_quiet (fail)
        go_wp2_with fail
        go_roundw
        case rel => exact ⟨i + 1, by omega, by go_num, HY.out, bndrewN hB.out _⟩
        case measure => simp [intOf]; omega
      · have HN : Hid (sameB f g n = false) := sameB_no hlt hq
        have hq2 : (f i != g i) = true := by simp [hq]
        go_wp2_with fail
        go_quiet (fail)
        go_wp2_with fail
        go_ret
        exact ⟨by rw [HN.out]; rfl, bndrewN hB.out _⟩
    · obtain rfl : n = i := by omega
      go_wp2_with fail
      go_ret
      exact ⟨by rw [hsm]; rfl, hB.out⟩
set_option maxRecDepth 100000 in
set_option maxHeartbeats 2000000 in
theorem bequal_len (a b : Option Addr) (n m ca cb : Nat) (w : World) (hnm : n ≠ m) :
    Calls Tryd.prog 45 #[.slice a n ca, .slice b m cb] w fun e w' => e = .returned (.bool false) ∧ Below w.heap.size w w' := by
  have hne : ((n : Int) != (m : Int)) = true := by simp; omega
  go_enter Tryd.func45, Tryd.ntmps45
  go_wp2_with fail
  go_ret
  exact ⟨rfl, Below.refl _ _⟩
theorem ball_eq : ∀ (xs ys : List Int), xs.length = ys.length → ((List.range xs.length).all fun i => xs.getD i 0 == ys.getD i 0) = (xs == ys)
  | [], [], _ => rfl
  | x :: xs, y :: ys, h => by
    have ih := ball_eq xs ys (by simpa using h)
    rw [List.length_cons, List.range_succ_eq_map, List.all_cons, List.all_map]
    simp only [List.getD_cons_zero, Function.comp_def, List.getD_cons_succ, ih]
    simp [List.cons_beq_cons]
  | [], _ :: _, h => by simp at h
  | _ :: _, [], h => by simp at h
theorem brun_equal {P : Program} (w : World) (d : Nat) (t e : TypeId) (n : Nat) (ht : P.underlying t = some (.array n e)) (he : P.underlying e = some (.int .i64)) (hsz : ∀ w, (sizeOf e).run P w = .ok 1 w)
    (xs ys : List Int) (hx : xs.length = n) (hy : ys.length = n) :
    (Op.equalIn (d + 2) t (.agg (xs.map (Value.int .i64)).toArray) (.agg (ys.map (Value.int .i64)).toArray)).run P w = .ok (xs == ys) w := by
  rw [← ball_eq xs ys (hx.trans hy.symm), hx, List.range_eq_range', Op.equalIn]
  simp only [Sem.run_bind, run_underlying ht, Result.andThen_ok, hsz, Std.Legacy.Range.forIn_eq_forIn_range', Std.Legacy.Range.size, Nat.sub_zero, Nat.add_sub_cancel, Nat.div_one]
  have hl : ∀ i ∈ List.range' 0 n 1, i < n := fun i hi => by simpa using (List.mem_range'_1.1 hi).2
  generalize List.range' 0 n 1 = l at hl ⊢
  induction l with
  | nil => simp
  | cons i l ih =>
    have hi : i < n := hl i (by simp)
    have px : (part e (xs.map (Value.int .i64)).toArray (i * 1)).run P w = .ok (.int .i64 (xs.getD i 0)) w := by
      simp [part, isAgg, run_underlying he, List.getD, List.getElem?_eq_getElem (show i < xs.length by omega)]
    have py : (part e (ys.map (Value.int .i64)).toArray (i * 1)).run P w = .ok (.int .i64 (ys.getD i 0)) w := by
      simp [part, isAgg, run_underlying he, List.getD, List.getElem?_eq_getElem (show i < ys.length by omega)]
    have pe : (Op.equalIn (d + 1) e (.int .i64 (xs.getD i 0)) (.int .i64 (ys.getD i 0))).run P w = .ok (xs.getD i 0 == ys.getD i 0) w := run_equalIn_int w d e .i64 .i64 _ _ he
    simp only [List.forIn_cons, Sem.run_bind, px, py, pe, Result.andThen_ok, List.all_cons]
    cases hb : (xs.getD i 0 == ys.getD i 0)
    · simp
    · simp only [Bool.not_true, Bool.false_eq_true, if_false, Sem.run_pure, Result.andThen_ok, Bool.true_and]
      exact ih fun j hj => hl j (by simp [hj])
/-- The numbers of a bill, as a list. -/
def Bi.nums (X : Bi.Bl) : List Int := [X.days, X.sew, X.net, X.tax, X.gross, X.code]
theorem Bi.nums_eq {X Y : Bi.Bl} : Bi.nums X = Bi.nums Y ↔ X = Y := by
  obtain ⟨a, b, c, d, e, f⟩ := X
  obtain ⟨a', b', c', d', e', f'⟩ := Y
  simp [Bi.nums]
theorem bsize_i64 (w : World) : (sizeOf 2).run Tryd.prog w = .ok 1 w := by
  obtain ⟨i1, hi1, hi0, hi2, hi3⟩ := info_parts bbinfo_i64
  simp [sizeOf, typeInfo, hi1, hi2]
theorem beq_bill (X Y : Bi.Bl) (w : World) : (binOp .eql 80 (.agg #[.int .i64 X.days, .int .i64 X.sew, .int .i64 X.net, .int .i64 X.tax, .int .i64 X.gross, .int .i64 X.code]) (.agg #[.int .i64 Y.days, .int .i64 Y.sew, .int .i64 Y.net, .int .i64 Y.tax, .int .i64 Y.gross, .int .i64 Y.code])).run Tryd.prog w = .ok (.bool (Bi.nums X == Bi.nums Y)) w := by
  rw [run_eql_struct]
  have := brun_equal (P := Tryd.prog) w 9998 80 2 6 Tryd.underlying80 Tryd.underlying2 bsize_i64 (Bi.nums X) (Bi.nums Y) rfl rfl
  simp only [Bi.nums, List.map_cons, List.map_nil] at this ⊢
  rw [this]
  rfl
/-- What stands once a bill has been made again. -/
structure BrS (z : Bi.Bi) (b : Option Addr) (kb : Nat) (w V0 : World) (xb : Nat) (Y : Bi.Bl) (N : Nat) (aN : Option Addr) (cN : Nat) (U : Nat → Int) (W : World) : Prop where
  bel : Below V0.heap.size V0 W
  row : W.rowIs xb 30 7 (rowN (blL Y N aN cN))
  own : QsOwn V0.heap.size N aN cN U W
set_option maxRecDepth 100000 in
set_option maxHeartbeats 8000000 in
theorem implBRight_any (t : Bi.T) (a : Option Addr) (k : Nat) (x : Int) (z : Bi.Bi) (b : Option Addr) (kb : Nat) (w : World) (h : IsAt a (t.bn * 2) t.B w) (hn : t.bn ≤ 9223372036854775807) (hL : IsIn b z.n z.L w) (hz : -9223372036854775808 ≤ z.b.days ∧ z.b.days ≤ 9223372036854775807) (hg : Et w) :
    Calls Tryd.prog 12 #[tfV t a k, .int .i64 x, blV z.b z.n b kb] w fun e w' => e = .returned (.bool (Bi.dB (Bi.BRight t x z))) ∧ Below w.heap.size w w' := by
  obtain ⟨W, hW⟩ : ∃ W, W = (w.alloc (.cells #[.int .i64 t.day, .slice a t.bn k, .int .i64 t.sew, .int .i64 t.tax] 25)).alloc (.cells #[.int .i64 z.b.days, .slice b z.n kb, .int .i64 z.b.sew, .int .i64 z.b.net, .int .i64 z.b.tax, .int .i64 z.b.gross, .int .i64 z.b.code] 30) := ⟨_, rfl⟩
  have BW : Hid (Below w.heap.size w W) := by show Below _ _ _; rw [hW]; exact (nbel_alloc _ _).alloc (by simp) _
  have ARG : Hid (W.rowIs w.heap.size 25 4 (rowN (tfL t a k)) ∧ W.rowIs (w.heap.size + 1) 30 7 (rowN (blL z.b z.n b kb))) := by
    show World.rowIs _ _ _ _ _ ∧ _
    rw [hW]
    exact ⟨nrow_below (rowN_alloc w _ _) (nbel_alloc _ _), rowN_alloc' (by simp) _ _⟩
  have H := Lib.hid (h.below BW.out)
  have HL := Lib.hid (hL.below BW.out)
  have HG := Lib.hid (hg.below BW.out)
  have HZ := Lib.hid hz
  have HW := Lib.hid hW
  clear hW h hL hg hz
  go_enter Tryd.func12, Tryd.ntmps12
  go_wp2_with fail
  rw [← HW.out]
  clear HW
  go_cut [7] (fun q Wq => ∃ xb YN N aN cN dd, q = .pointer (some ⟨xb, 0, none⟩) ∧ Hid (BrS z b kb w W xb YN N aN cN (Bi.line t x) Wq ∧ (((YN.code = 1 ∧ ¬ Bi.Ok t dd x) ∨ (YN = Bi.bill t dd x ∧ N = t.bn ∧ Bi.Ok t dd x)) ∧ (Bi.Right t → dd = Bi.daysOf t z))))
  case first =>
    refine wp_region_held_drew (S := fun V => Below W.heap.size W V) (by kernel_rfl) (Below.refl _ _).drew (fun hHeld => ?_)
    obtain ⟨Z, hZ⟩ : ∃ Z, Z = W.drew := ⟨_, rfl⟩
    rw [← hZ] at hHeld ⊢
    clear hZ
    refine take_do (i := 0) (v := (tfV t a k)) rfl (by kernel_rfl) (by kernel_rfl) (by kernel_rfl) (fun _ _ _ h => h) (by rfl) ?_ (by assumption) ?_
    · intro w hSw
      obtain ⟨⟨a0, a1, a2, a3⟩, _⟩ := rowN4 (nrow_below ARG.out.1 hSw)
      obtain ⟨⟨b0, b1, b2, b3, b4, b5, b6⟩, _⟩ := rowN7 (nrow_below ARG.out.2 hSw)
      go_simp
    simp only [Act.put, List.setIfInBounds_toArray, List.set_cons_zero, List.set_cons_succ]
    refine take_do (i := 1) (v := (tfV t a k)) rfl (by kernel_rfl) (by kernel_rfl) (by kernel_rfl) (fun _ _ _ h => h) (by rfl) ?_ (by assumption) ?_
    · intro w hSw
      obtain ⟨⟨a0, a1, a2, a3⟩, _⟩ := rowN4 (nrow_below ARG.out.1 hSw)
      obtain ⟨⟨b0, b1, b2, b3, b4, b5, b6⟩, _⟩ := rowN7 (nrow_below ARG.out.2 hSw)
      go_simp
    simp only [Act.put, List.setIfInBounds_toArray, List.set_cons_zero, List.set_cons_succ]
    refine take_do (i := 2) (v := (blV z.b z.n b kb)) rfl (by kernel_rfl) (by kernel_rfl) (by kernel_rfl) (fun _ _ _ h => h) (by rfl) ?_ (by assumption) ?_
    · intro w hSw
      obtain ⟨⟨a0, a1, a2, a3⟩, _⟩ := rowN4 (nrow_below ARG.out.1 hSw)
      obtain ⟨⟨b0, b1, b2, b3, b4, b5, b6⟩, _⟩ := rowN7 (nrow_below ARG.out.2 hSw)
      go_simp
    simp only [Act.put, List.setIfInBounds_toArray, List.set_cons_zero, List.set_cons_succ]
    refine take_do (i := 4) (v := (.int .i64 x)) rfl (by kernel_rfl) (by kernel_rfl) (by kernel_rfl) (fun _ _ _ h => h) (by rfl) ?_ (by assumption) ?_
    · intro w hSw
      go_simp
    simp only [Act.put, List.setIfInBounds_toArray, List.set_cons_zero, List.set_cons_succ]
    refine wpAnyH_ready (rs := [3, 6]) (by kernel_rfl) (by simp) (AllReadyH.cons (at_drop (i := 3) rfl) (fun K2 hK => ?_) (AllReadyH.cons (at_drop (i := 6) rfl) (fun K2 hK => ?_) (AllReadyH.nil)))
    · go_simp
      refine (daysOf_any t a k z b kb _ HZ.out).mono ?_
      rintro e Z1 ⟨⟨dd, rfl, hdd⟩, hb⟩
      have HDD := Lib.hid hdd
      clear hdd
      go_wp2_with fail
      refine hK.out _ _ (hHeld.trans (hb.mono hHeld.size)) (fun hHeld2 => ?_)
      clear hK hHeld hb
      have hHeld := hHeld2
      clear hHeld2
      refine wpAnyH_ready (rs := [5, 6]) (by kernel_rfl) (by simp) (AllReadyH.cons (at_drop (i := 5) rfl) (fun K2 hK => ?_) (AllReadyH.cons (at_drop (i := 6) rfl) (fun K2 hK => ?_) (AllReadyH.nil)))
      · go_simp
        refine (implBill_any t a k dd x _ (H.out.below hHeld) hn (HG.out.below hHeld)).mono ?_
        rintro e Z2 ⟨hE, hb⟩
        obtain ⟨YN, N, aN, cN, rfl, hown, hyn⟩ : ∃ YN N aN cN, e = .returned (blV YN N aN cN) ∧ QsOwn W.heap.size N aN cN (Bi.line t x) Z2 ∧ ((YN.code = 1 ∧ ¬ Bi.Ok t dd x) ∨ (YN = Bi.bill t dd x ∧ N = t.bn ∧ Bi.Ok t dd x)) := by
          rcases hE with ⟨h, e⟩ | ⟨h, a, c, e, k⟩
          · exact ⟨Bi.bad, 0, none, 0, e, Or.inl ⟨rfl, rfl, rfl⟩, Or.inl ⟨rfl, h⟩⟩
          · exact ⟨_, _, a, c, e, k.low hHeld.size, Or.inr ⟨rfl, rfl, h⟩⟩
        have HOW := Lib.hid hown
        have HYN : Hid (((YN.code = 1 ∧ ¬ Bi.Ok t dd x) ∨ (YN = Bi.bill t dd x ∧ N = t.bn ∧ Bi.Ok t dd x)) ∧ (Bi.Right t → dd = Bi.daysOf t z)) := ⟨hyn, HDD.out⟩
        clear hE hown hyn HDD
        go_wp2_with fail
        refine hK.out _ _ (hHeld.trans (hb.mono hHeld.size)) (fun hHeld2 => ?_)
        clear hK hHeld hb
        have hHeld := hHeld2
        clear hHeld2
        refine wpAnyH_ready (rs := [6]) (by kernel_rfl) (by simp) (AllReadyH.cons (at_drop (i := 6) rfl) (fun K2 hK => ?_) (AllReadyH.nil))
        obtain ⟨Z3, hZ3⟩ : ∃ Z3, Z3 = Z2.alloc (.cells #[.int .i64 0, .slice none 0 0, .int .i64 0, .int .i64 0, .int .i64 0, .int .i64 0, .int .i64 0] 30) := ⟨_, rfl⟩
        have hb : Below Z2.heap.size Z2 Z3 := by rw [hZ3]; exact nbel_alloc _ _
        have HV : Hid (Z3.rowIs Z2.heap.size 30 7 (rowN [.int .i64 0, .slice none 0 0, .int .i64 0, .int .i64 0, .int .i64 0, .int .i64 0, .int .i64 0])) := by show World.rowIs _ _ _ _ _; rw [hZ3]; exact rowN_alloc _ _ _
        obtain ⟨xb, hxb⟩ : ∃ xb, xb = Z2.heap.size := ⟨_, rfl⟩
        rw [← hxb] at HV
        have HXL : Hid (W.heap.size ≤ xb) := by show _ ≤ _; rw [hxb]; exact hHeld.size
        have HOW2 := Lib.hid (HOW.out.below hb)
        clear HOW
        have HOW := HOW2
        clear HOW2
        go_simp
        rw [← hZ3, ← hxb]
        clear hZ3
        refine hK.out _ _ (hHeld.trans (hb.mono hHeld.size)) (fun hHeld2 => ?_)
        clear hK hHeld hxb hb
        have hHeld := hHeld2
        clear hHeld2
        have zr := bput7 HV.out rfl (.int .i64 YN.days) (.slice aN N cN) (.int .i64 YN.sew) (.int .i64 YN.net) (.int .i64 YN.tax) (.int .i64 YN.gross) (.int .i64 YN.code)
        have zk := fun (k : Nat) (hk : k ≠ xb) => bblk7 (W := Z3) hk (.int .i64 YN.days) (.slice aN N cN) (.int .i64 YN.sew) (.int .i64 YN.net) (.int .i64 YN.tax) (.int .i64 YN.gross) (.int .i64 YN.code)
        have zb := bbel7 (g := xb) hHeld HXL.out (.int .i64 YN.days) (.slice aN N cN) (.int .i64 YN.sew) (.int .i64 YN.net) (.int .i64 YN.tax) (.int .i64 YN.gross) (.int .i64 YN.code)
        obtain ⟨⟨o0, o1, o2, o3, o4, o5, o6⟩, z0, z1, z2, z3, z4, z5, z6⟩ := rowN7 HV.out
        have hol := HV.out.lt
        refine take_call (i := 7) rfl (by kernel_rfl) (fun K2 hK => ?_)
        go_simp
        clear o0 o1 o2 o3 o4 o5 o6 z0 z1 z2 z3 z4 z5 z6
        have zo : QsOwn W.heap.size N aN cN (Bi.line t x) _ := HOW.out.same (fun k e _ => zk k (fun e2 => HOW.out.ne HV.out (by decide) (by rw [e, e2])))
        generalize (((((((Z3).setCell ⟨xb, 0, none⟩ (.int .i64 YN.days)).setCell ⟨xb, 1, none⟩ (.slice aN N cN)).setCell ⟨xb, 2, none⟩ (.int .i64 YN.sew)).setCell ⟨xb, 3, none⟩ (.int .i64 YN.net)).setCell ⟨xb, 4, none⟩ (.int .i64 YN.tax)).setCell ⟨xb, 5, none⟩ (.int .i64 YN.gross)).setCell ⟨xb, 6, none⟩ (.int .i64 YN.code) = Y at zr zk zb zo ⊢
        refine hK.out _ _ zb (fun hHeld2 => ?_)
        clear hK hHeld hHeld2
        refine wpAnyH_done (by kernel_rfl) ?_ _
        have HPR : Hid (BrS z b kb w W xb YN N aN cN (Bi.line t x) Y ∧ (((YN.code = 1 ∧ ¬ Bi.Ok t dd x) ∨ (YN = Bi.bill t dd x ∧ N = t.bn ∧ Bi.Ok t dd x)) ∧ (Bi.Right t → dd = Bi.daysOf t z))) := ⟨⟨zb, zr, zo⟩, HYN.out⟩
        clear zo
        clear zr zk zb
        go_wp2_with fail
        go_meet
        case rel => exact ⟨xb, YN, N, aN, cN, dd, rfl, HPR⟩
      · obtain ⟨Z2, hZ2⟩ : ∃ Z2, Z2 = Z1.alloc (.cells #[.int .i64 0, .slice none 0 0, .int .i64 0, .int .i64 0, .int .i64 0, .int .i64 0, .int .i64 0] 30) := ⟨_, rfl⟩
        have hb : Below Z1.heap.size Z1 Z2 := by rw [hZ2]; exact nbel_alloc _ _
        have HV : Hid (Z2.rowIs Z1.heap.size 30 7 (rowN [.int .i64 0, .slice none 0 0, .int .i64 0, .int .i64 0, .int .i64 0, .int .i64 0, .int .i64 0])) := by show World.rowIs _ _ _ _ _; rw [hZ2]; exact rowN_alloc _ _ _
        obtain ⟨xb, hxb⟩ : ∃ xb, xb = Z1.heap.size := ⟨_, rfl⟩
        rw [← hxb] at HV
        have HXL : Hid (W.heap.size ≤ xb) := by show _ ≤ _; rw [hxb]; exact hHeld.size
        go_simp
        rw [← hZ2, ← hxb]
        clear hZ2
        refine hK.out _ _ (hHeld.trans (hb.mono hHeld.size)) (fun hHeld2 => ?_)
        clear hK hHeld hxb hb
        have hHeld := hHeld2
        clear hHeld2
        refine wpAnyH_ready (rs := [5]) (by kernel_rfl) (by simp) (AllReadyH.cons (at_drop (i := 5) rfl) (fun K2 hK => ?_) (AllReadyH.nil))
        go_simp
        refine (implBill_any t a k dd x _ (H.out.below hHeld) hn (HG.out.below hHeld)).mono ?_
        rintro e Z3 ⟨hE, hb⟩
        obtain ⟨YN, N, aN, cN, rfl, hown, hyn⟩ : ∃ YN N aN cN, e = .returned (blV YN N aN cN) ∧ QsOwn W.heap.size N aN cN (Bi.line t x) Z3 ∧ ((YN.code = 1 ∧ ¬ Bi.Ok t dd x) ∨ (YN = Bi.bill t dd x ∧ N = t.bn ∧ Bi.Ok t dd x)) := by
          rcases hE with ⟨h, e⟩ | ⟨h, a, c, e, k⟩
          · exact ⟨Bi.bad, 0, none, 0, e, Or.inl ⟨rfl, rfl, rfl⟩, Or.inl ⟨rfl, h⟩⟩
          · exact ⟨_, _, a, c, e, k.low hHeld.size, Or.inr ⟨rfl, rfl, h⟩⟩
        have HOW := Lib.hid hown
        have HYN : Hid (((YN.code = 1 ∧ ¬ Bi.Ok t dd x) ∨ (YN = Bi.bill t dd x ∧ N = t.bn ∧ Bi.Ok t dd x)) ∧ (Bi.Right t → dd = Bi.daysOf t z)) := ⟨hyn, HDD.out⟩
        clear hE hown hyn HDD
        have HV2 := Lib.hid (nrow_below HV.out hb)
        clear HV
        have HV := HV2
        clear HV2
        go_wp2_with fail
        refine hK.out _ _ (hHeld.trans (hb.mono hHeld.size)) (fun hHeld2 => ?_)
        clear hK hHeld hb
        have hHeld := hHeld2
        clear hHeld2
        have zr := bput7 HV.out rfl (.int .i64 YN.days) (.slice aN N cN) (.int .i64 YN.sew) (.int .i64 YN.net) (.int .i64 YN.tax) (.int .i64 YN.gross) (.int .i64 YN.code)
        have zk := fun (k : Nat) (hk : k ≠ xb) => bblk7 (W := Z3) hk (.int .i64 YN.days) (.slice aN N cN) (.int .i64 YN.sew) (.int .i64 YN.net) (.int .i64 YN.tax) (.int .i64 YN.gross) (.int .i64 YN.code)
        have zb := bbel7 (g := xb) hHeld HXL.out (.int .i64 YN.days) (.slice aN N cN) (.int .i64 YN.sew) (.int .i64 YN.net) (.int .i64 YN.tax) (.int .i64 YN.gross) (.int .i64 YN.code)
        obtain ⟨⟨o0, o1, o2, o3, o4, o5, o6⟩, z0, z1, z2, z3, z4, z5, z6⟩ := rowN7 HV.out
        have hol := HV.out.lt
        refine take_call (i := 7) rfl (by kernel_rfl) (fun K2 hK => ?_)
        go_simp
        clear o0 o1 o2 o3 o4 o5 o6 z0 z1 z2 z3 z4 z5 z6
        have zo : QsOwn W.heap.size N aN cN (Bi.line t x) _ := HOW.out.same (fun k e _ => zk k (fun e2 => HOW.out.ne HV.out (by decide) (by rw [e, e2])))
        generalize (((((((Z3).setCell ⟨xb, 0, none⟩ (.int .i64 YN.days)).setCell ⟨xb, 1, none⟩ (.slice aN N cN)).setCell ⟨xb, 2, none⟩ (.int .i64 YN.sew)).setCell ⟨xb, 3, none⟩ (.int .i64 YN.net)).setCell ⟨xb, 4, none⟩ (.int .i64 YN.tax)).setCell ⟨xb, 5, none⟩ (.int .i64 YN.gross)).setCell ⟨xb, 6, none⟩ (.int .i64 YN.code) = Y at zr zk zb zo ⊢
        refine hK.out _ _ zb (fun hHeld2 => ?_)
        clear hK hHeld hHeld2
        refine wpAnyH_done (by kernel_rfl) ?_ _
        have HPR : Hid (BrS z b kb w W xb YN N aN cN (Bi.line t x) Y ∧ (((YN.code = 1 ∧ ¬ Bi.Ok t dd x) ∨ (YN = Bi.bill t dd x ∧ N = t.bn ∧ Bi.Ok t dd x)) ∧ (Bi.Right t → dd = Bi.daysOf t z))) := ⟨⟨zb, zr, zo⟩, HYN.out⟩
        clear zo
        clear zr zk zb
        go_wp2_with fail
        go_meet
        case rel => exact ⟨xb, YN, N, aN, cN, dd, rfl, HPR⟩
    · obtain ⟨Z1, hZ1⟩ : ∃ Z1, Z1 = Z.alloc (.cells #[.int .i64 0, .slice none 0 0, .int .i64 0, .int .i64 0, .int .i64 0, .int .i64 0, .int .i64 0] 30) := ⟨_, rfl⟩
      have hb : Below Z.heap.size Z Z1 := by rw [hZ1]; exact nbel_alloc _ _
      have HV : Hid (Z1.rowIs Z.heap.size 30 7 (rowN [.int .i64 0, .slice none 0 0, .int .i64 0, .int .i64 0, .int .i64 0, .int .i64 0, .int .i64 0])) := by show World.rowIs _ _ _ _ _; rw [hZ1]; exact rowN_alloc _ _ _
      obtain ⟨xb, hxb⟩ : ∃ xb, xb = Z.heap.size := ⟨_, rfl⟩
      rw [← hxb] at HV
      have HXL : Hid (W.heap.size ≤ xb) := by show _ ≤ _; rw [hxb]; exact hHeld.size
      go_simp
      rw [← hZ1, ← hxb]
      clear hZ1
      refine hK.out _ _ (hHeld.trans (hb.mono hHeld.size)) (fun hHeld2 => ?_)
      clear hK hHeld hxb hb
      have hHeld := hHeld2
      clear hHeld2
      refine wpAnyH_ready (rs := [3]) (by kernel_rfl) (by simp) (AllReadyH.cons (at_drop (i := 3) rfl) (fun K2 hK => ?_) (AllReadyH.nil))
      go_simp
      refine (daysOf_any t a k z b kb _ HZ.out).mono ?_
      rintro e Z2 ⟨⟨dd, rfl, hdd⟩, hb⟩
      have HDD := Lib.hid hdd
      clear hdd
      have HV2 := Lib.hid (nrow_below HV.out hb)
      clear HV
      have HV := HV2
      clear HV2
      go_wp2_with fail
      refine hK.out _ _ (hHeld.trans (hb.mono hHeld.size)) (fun hHeld2 => ?_)
      clear hK hHeld hb
      have hHeld := hHeld2
      clear hHeld2
      refine wpAnyH_ready (rs := [5]) (by kernel_rfl) (by simp) (AllReadyH.cons (at_drop (i := 5) rfl) (fun K2 hK => ?_) (AllReadyH.nil))
      go_simp
      refine (implBill_any t a k dd x _ (H.out.below hHeld) hn (HG.out.below hHeld)).mono ?_
      rintro e Z3 ⟨hE, hb⟩
      obtain ⟨YN, N, aN, cN, rfl, hown, hyn⟩ : ∃ YN N aN cN, e = .returned (blV YN N aN cN) ∧ QsOwn W.heap.size N aN cN (Bi.line t x) Z3 ∧ ((YN.code = 1 ∧ ¬ Bi.Ok t dd x) ∨ (YN = Bi.bill t dd x ∧ N = t.bn ∧ Bi.Ok t dd x)) := by
        rcases hE with ⟨h, e⟩ | ⟨h, a, c, e, k⟩
        · exact ⟨Bi.bad, 0, none, 0, e, Or.inl ⟨rfl, rfl, rfl⟩, Or.inl ⟨rfl, h⟩⟩
        · exact ⟨_, _, a, c, e, k.low hHeld.size, Or.inr ⟨rfl, rfl, h⟩⟩
      have HOW := Lib.hid hown
      have HYN : Hid (((YN.code = 1 ∧ ¬ Bi.Ok t dd x) ∨ (YN = Bi.bill t dd x ∧ N = t.bn ∧ Bi.Ok t dd x)) ∧ (Bi.Right t → dd = Bi.daysOf t z)) := ⟨hyn, HDD.out⟩
      clear hE hown hyn HDD
      have HV2 := Lib.hid (nrow_below HV.out hb)
      clear HV
      have HV := HV2
      clear HV2
      go_wp2_with fail
      refine hK.out _ _ (hHeld.trans (hb.mono hHeld.size)) (fun hHeld2 => ?_)
      clear hK hHeld hb
      have hHeld := hHeld2
      clear hHeld2
      have zr := bput7 HV.out rfl (.int .i64 YN.days) (.slice aN N cN) (.int .i64 YN.sew) (.int .i64 YN.net) (.int .i64 YN.tax) (.int .i64 YN.gross) (.int .i64 YN.code)
      have zk := fun (k : Nat) (hk : k ≠ xb) => bblk7 (W := Z3) hk (.int .i64 YN.days) (.slice aN N cN) (.int .i64 YN.sew) (.int .i64 YN.net) (.int .i64 YN.tax) (.int .i64 YN.gross) (.int .i64 YN.code)
      have zb := bbel7 (g := xb) hHeld HXL.out (.int .i64 YN.days) (.slice aN N cN) (.int .i64 YN.sew) (.int .i64 YN.net) (.int .i64 YN.tax) (.int .i64 YN.gross) (.int .i64 YN.code)
      obtain ⟨⟨o0, o1, o2, o3, o4, o5, o6⟩, z0, z1, z2, z3, z4, z5, z6⟩ := rowN7 HV.out
      have hol := HV.out.lt
      refine take_call (i := 7) rfl (by kernel_rfl) (fun K2 hK => ?_)
      go_simp
      clear o0 o1 o2 o3 o4 o5 o6 z0 z1 z2 z3 z4 z5 z6
      have zo : QsOwn W.heap.size N aN cN (Bi.line t x) _ := HOW.out.same (fun k e _ => zk k (fun e2 => HOW.out.ne HV.out (by decide) (by rw [e, e2])))
      generalize (((((((Z3).setCell ⟨xb, 0, none⟩ (.int .i64 YN.days)).setCell ⟨xb, 1, none⟩ (.slice aN N cN)).setCell ⟨xb, 2, none⟩ (.int .i64 YN.sew)).setCell ⟨xb, 3, none⟩ (.int .i64 YN.net)).setCell ⟨xb, 4, none⟩ (.int .i64 YN.tax)).setCell ⟨xb, 5, none⟩ (.int .i64 YN.gross)).setCell ⟨xb, 6, none⟩ (.int .i64 YN.code) = Y at zr zk zb zo ⊢
      refine hK.out _ _ zb (fun hHeld2 => ?_)
      clear hK hHeld hHeld2
      refine wpAnyH_done (by kernel_rfl) ?_ _
      have HPR : Hid (BrS z b kb w W xb YN N aN cN (Bi.line t x) Y ∧ (((YN.code = 1 ∧ ¬ Bi.Ok t dd x) ∨ (YN = Bi.bill t dd x ∧ N = t.bn ∧ Bi.Ok t dd x)) ∧ (Bi.Right t → dd = Bi.daysOf t z))) := ⟨⟨zb, zr, zo⟩, HYN.out⟩
      clear zo
      clear zr zk zb
      go_wp2_with fail
      go_meet
      case rel => exact ⟨xb, YN, N, aN, cN, dd, rfl, HPR⟩
  case rest =>
    obtain ⟨xb, YN, N, aN, cN, dd, rfl, hPR⟩ := hcut
    obtain ⟨W3, hW3⟩ : ∃ W3, W3 = wc := ⟨_, rfl⟩
    rw [← hW3] at hPR ⊢
    clear hW3
    have P7 := Lib.hid hPR.out.1
    have HYN := Lib.hid hPR.out.2
    have ARG7 : Hid (W3.rowIs (w.heap.size + 1) 30 7 (rowN (blL z.b z.n b kb))) := nrow_below ARG.out.2 hPR.out.1.bel
    clear hPR
    rcases HYN.out.1 with ⟨hc1, hno⟩ | ⟨hYb, hNb, hok⟩
    · have hcz : (YN.code == 0) = false := by rw [hc1]; rfl
      have HE : Hid (Bi.dB (Bi.BRight t x z) = false) := Bi.dB_ff (fun h => by
        by_cases hr : Bi.Right t
        · have := (Bi.bright_iff.1 h).1
          rw [← HYN.out.2 hr] at this
          exact hno this
        · obtain ⟨d, hd, _⟩ := h
          exact hr hd.1)
      clear hc1 hno HYN
      go_wp2_with fail
      refine wp_region_held_drew (S := fun V => BrS z b kb w W xb YN N aN cN (Bi.line t x) V ∧ V.rowIs (w.heap.size + 1) 30 7 (rowN (blL z.b z.n b kb))) (by kernel_rfl) ⟨⟨P7.out.bel.drew, P7.out.row.of_block rfl, P7.out.own.same (fun _ _ _ => rfl)⟩, ARG7.out.of_block rfl⟩ (fun hHeld => ?_)
      refine take_do (i := 0) (v := (.pointer (some ⟨xb, 6, none⟩))) rfl (by kernel_rfl) (by kernel_rfl) (by kernel_rfl) (fun _ _ _ h => h) (by rfl) ?_ (by assumption) ?_
      · intro w hSw
        go_simp
      simp only [Act.put, List.setIfInBounds_toArray, List.set_cons_zero, List.set_cons_succ]
      refine take_do (i := 1) (v := (.int .i64 YN.code)) rfl (by kernel_rfl) (by kernel_rfl) (by kernel_rfl) (fun _ _ _ h => h) (by rfl) ?_ (by assumption) ?_
      · intro w hSw
        obtain ⟨⟨a0, a1, a2, a3, a4, a5, a6⟩, _⟩ := rowN7 hSw.1.row
        obtain ⟨⟨b0, b1, b2, b3, b4, b5, b6⟩, _⟩ := rowN7 hSw.2
        go_simp
      simp only [Act.put, List.setIfInBounds_toArray, List.set_cons_zero, List.set_cons_succ]
      refine take_do (i := 2) (v := (.bool false)) rfl (by kernel_rfl) (by kernel_rfl) (by kernel_rfl) (fun _ _ _ h => h) (by rfl) ?_ (by assumption) ?_
      · intro w hSw
        go_simp
      simp only [Act.put, List.setIfInBounds_toArray, List.set_cons_zero, List.set_cons_succ]
      refine take_do (i := 3) (v := (.bool false)) rfl (by kernel_rfl) (by kernel_rfl) (by kernel_rfl) (fun _ _ _ h => h) (by rfl) ?_ (by assumption) ?_
      · intro w hSw
        go_simp
      simp only [Act.put, List.setIfInBounds_toArray, List.set_cons_zero, List.set_cons_succ]
      refine take_skip (i := 4) rfl (by kernel_rfl) (by kernel_rfl) (by kernel_rfl) (fun _ _ _ h => h) (by rfl) (by assumption) ?_
      simp only [Act.put, List.setIfInBounds_toArray, List.set_cons_zero, List.set_cons_succ]
      refine take_skip (i := 5) rfl (by kernel_rfl) (by kernel_rfl) (by kernel_rfl) (fun _ _ _ h => h) (by rfl) (by assumption) ?_
      simp only [Act.put, List.setIfInBounds_toArray, List.set_cons_zero, List.set_cons_succ]
      refine take_skip (i := 6) rfl (by kernel_rfl) (by kernel_rfl) (by kernel_rfl) (fun _ _ _ h => h) (by rfl) (by assumption) ?_
      simp only [Act.put, List.setIfInBounds_toArray, List.set_cons_zero, List.set_cons_succ]
      refine take_skip (i := 7) rfl (by kernel_rfl) (by kernel_rfl) (by kernel_rfl) (fun _ _ _ h => h) (by rfl) (by assumption) ?_
      simp only [Act.put, List.setIfInBounds_toArray, List.set_cons_zero, List.set_cons_succ]
      refine take_skip (i := 8) rfl (by kernel_rfl) (by kernel_rfl) (by kernel_rfl) (fun _ _ _ h => h) (by rfl) (by assumption) ?_
      simp only [Act.put, List.setIfInBounds_toArray, List.set_cons_zero, List.set_cons_succ]
      refine take_do (i := 9) (v := (.bool false)) rfl (by kernel_rfl) (by kernel_rfl) (by kernel_rfl) (fun _ _ _ h => h) (by rfl) ?_ (by assumption) ?_
      · intro w hSw
        go_simp
      simp only [Act.put, List.setIfInBounds_toArray, List.set_cons_zero, List.set_cons_succ]
      refine take_do (i := 10) (v := (.bool false)) rfl (by kernel_rfl) (by kernel_rfl) (by kernel_rfl) (fun _ _ _ h => h) (by rfl) ?_ (by assumption) ?_
      · intro w hSw
        go_simp
      simp only [Act.put, List.setIfInBounds_toArray, List.set_cons_zero, List.set_cons_succ]
      refine take_skip (i := 11) rfl (by kernel_rfl) (by kernel_rfl) (by kernel_rfl) (fun _ _ _ h => h) (by rfl) (by assumption) ?_
      simp only [Act.put, List.setIfInBounds_toArray, List.set_cons_zero, List.set_cons_succ]
      refine take_skip (i := 12) rfl (by kernel_rfl) (by kernel_rfl) (by kernel_rfl) (fun _ _ _ h => h) (by rfl) (by assumption) ?_
      simp only [Act.put, List.setIfInBounds_toArray, List.set_cons_zero, List.set_cons_succ]
      refine take_skip (i := 13) rfl (by kernel_rfl) (by kernel_rfl) (by kernel_rfl) (fun _ _ _ h => h) (by rfl) (by assumption) ?_
      simp only [Act.put, List.setIfInBounds_toArray, List.set_cons_zero, List.set_cons_succ]
      refine take_skip (i := 14) rfl (by kernel_rfl) (by kernel_rfl) (by kernel_rfl) (fun _ _ _ h => h) (by rfl) (by assumption) ?_
      simp only [Act.put, List.setIfInBounds_toArray, List.set_cons_zero, List.set_cons_succ]
      refine take_skip (i := 15) rfl (by kernel_rfl) (by kernel_rfl) (by kernel_rfl) (fun _ _ _ h => h) (by rfl) (by assumption) ?_
      simp only [Act.put, List.setIfInBounds_toArray, List.set_cons_zero, List.set_cons_succ]
      refine take_do (i := 16) (v := (.bool false)) rfl (by kernel_rfl) (by kernel_rfl) (by kernel_rfl) (fun _ _ _ h => h) (by rfl) ?_ (by assumption) ?_
      · intro w hSw
        go_simp
      simp only [Act.put, List.setIfInBounds_toArray, List.set_cons_zero, List.set_cons_succ]
      refine take_do (i := 17) (v := (.bool false)) rfl (by kernel_rfl) (by kernel_rfl) (by kernel_rfl) (fun _ _ _ h => h) (by rfl) ?_ (by assumption) ?_
      · intro w hSw
        go_simp
      simp only [Act.put, List.setIfInBounds_toArray, List.set_cons_zero, List.set_cons_succ]
      refine wpAnyH_done (by kernel_rfl) ?_ _
      have B9 : Hid (Below w.heap.size w _) := BW.out.trans (hHeld.1.bel.mono BW.out.size)
      clear hHeld
      go_wp2_with fail
      go_ret
      exact ⟨by rw [HE.out]; rfl, B9.out⟩
    have hcz : (YN.code == 0) = true := by rw [hYb]; rfl
    have HDD : Hid (dd = Bi.daysOf t z) := HYN.out.2 hok.1
    have HIFF : Hid (Bi.BRight t x z ↔ (YN = z.b ∧ t.bn = z.n ∧ ∀ i, i < z.n → Bi.line t x i = z.L i)) := by
      show _ ↔ _
      rw [Bi.bright_iff, ← HDD.out, hYb]
      exact ⟨fun h => h.2, fun h => ⟨hok, h⟩⟩
    have HNB := Lib.hid hNb
    have HNL : Hid (N ≤ 10) := by show _ ≤ _; rw [hNb]; exact hok.1.2.1.1.2
    clear hYb hok hNb HYN HDD
    have hEQ := beq_bill YN z.b
    by_cases q1 : YN = z.b
    case neg =>
      have hqn : (Bi.nums YN == Bi.nums z.b) = false := by
        apply Bool.eq_false_iff.2
        intro h
        exact q1 (Bi.nums_eq.1 (eq_of_beq h))
      rw [hqn] at hEQ
      have HE : Hid (Bi.dB (Bi.BRight t x z) = false) := Bi.dB_ff (fun h => q1 (HIFF.out.1 h).1)
      clear hqn q1 HIFF
      go_wp2_with fail
      refine wp_region_held_drew (S := fun V => BrS z b kb w W xb YN N aN cN (Bi.line t x) V ∧ V.rowIs (w.heap.size + 1) 30 7 (rowN (blL z.b z.n b kb))) (by kernel_rfl) ⟨⟨P7.out.bel.drew, P7.out.row.of_block rfl, P7.out.own.same (fun _ _ _ => rfl)⟩, ARG7.out.of_block rfl⟩ (fun hHeld => ?_)
      refine take_do (i := 0) (v := (.pointer (some ⟨xb, 6, none⟩))) rfl (by kernel_rfl) (by kernel_rfl) (by kernel_rfl) (fun _ _ _ h => h) (by rfl) ?_ (by assumption) ?_
      · intro w hSw
        go_simp
      simp only [Act.put, List.setIfInBounds_toArray, List.set_cons_zero, List.set_cons_succ]
      refine take_do (i := 1) (v := (.int .i64 YN.code)) rfl (by kernel_rfl) (by kernel_rfl) (by kernel_rfl) (fun _ _ _ h => h) (by rfl) ?_ (by assumption) ?_
      · intro w hSw
        obtain ⟨⟨a0, a1, a2, a3, a4, a5, a6⟩, _⟩ := rowN7 hSw.1.row
        obtain ⟨⟨b0, b1, b2, b3, b4, b5, b6⟩, _⟩ := rowN7 hSw.2
        go_simp
      simp only [Act.put, List.setIfInBounds_toArray, List.set_cons_zero, List.set_cons_succ]
      refine take_do (i := 2) (v := (.bool true)) rfl (by kernel_rfl) (by kernel_rfl) (by kernel_rfl) (fun _ _ _ h => h) (by rfl) ?_ (by assumption) ?_
      · intro w hSw
        go_simp
      simp only [Act.put, List.setIfInBounds_toArray, List.set_cons_zero, List.set_cons_succ]
      refine take_do (i := 3) (v := (.bool true)) rfl (by kernel_rfl) (by kernel_rfl) (by kernel_rfl) (fun _ _ _ h => h) (by rfl) ?_ (by assumption) ?_
      · intro w hSw
        go_simp
      simp only [Act.put, List.setIfInBounds_toArray, List.set_cons_zero, List.set_cons_succ]
      refine take_do (i := 4) (v := (blV YN N aN cN)) rfl (by kernel_rfl) (by kernel_rfl) (by kernel_rfl) (fun _ _ _ h => h) (by rfl) ?_ (by assumption) ?_
      · intro w hSw
        obtain ⟨⟨a0, a1, a2, a3, a4, a5, a6⟩, _⟩ := rowN7 hSw.1.row
        obtain ⟨⟨b0, b1, b2, b3, b4, b5, b6⟩, _⟩ := rowN7 hSw.2
        go_simp
      simp only [Act.put, List.setIfInBounds_toArray, List.set_cons_zero, List.set_cons_succ]
      refine take_do (i := 6) (v := (blV z.b z.n b kb)) rfl (by kernel_rfl) (by kernel_rfl) (by kernel_rfl) (fun _ _ _ h => h) (by rfl) ?_ (by assumption) ?_
      · intro w hSw
        obtain ⟨⟨a0, a1, a2, a3, a4, a5, a6⟩, _⟩ := rowN7 hSw.1.row
        obtain ⟨⟨b0, b1, b2, b3, b4, b5, b6⟩, _⟩ := rowN7 hSw.2
        go_simp
      simp only [Act.put, List.setIfInBounds_toArray, List.set_cons_zero, List.set_cons_succ]
      refine take_call (i := 5) rfl (by kernel_rfl) (fun K2 hK => ?_)
      go_simp
      refine (amounts_any YN N aN cN _).mono ?_
      rintro e w7 ⟨rfl, hb⟩
      go_wp2_with fail
      refine hK.out _ _ ⟨⟨hHeld.1.bel.trans (hb.mono hHeld.1.bel.size), nrow_below hHeld.1.row hb, hHeld.1.own.below hb⟩, nrow_below hHeld.2 hb⟩ (fun hHeld2 => ?_)
      clear hK hHeld hb
      have hHeld := hHeld2
      clear hHeld2
      refine take_call (i := 7) rfl (by kernel_rfl) (fun K2 hK => ?_)
      go_simp
      refine (amounts_any z.b z.n b kb _).mono ?_
      rintro e w7 ⟨rfl, hb⟩
      go_wp2_with fail
      refine hK.out _ _ ⟨⟨hHeld.1.bel.trans (hb.mono hHeld.1.bel.size), nrow_below hHeld.1.row hb, hHeld.1.own.below hb⟩, nrow_below hHeld.2 hb⟩ (fun hHeld2 => ?_)
      clear hK hHeld hb
      have hHeld := hHeld2
      clear hHeld2
      refine take_do (i := 8) (v := (.bool false)) rfl (by kernel_rfl) (by kernel_rfl) (by kernel_rfl) (fun _ _ _ h => h) (by rfl) ?_ (by assumption) ?_
      · intro w hSw
        go_simp
      simp only [Act.put, List.setIfInBounds_toArray, List.set_cons_zero, List.set_cons_succ]
      refine take_do (i := 9) (v := (.bool false)) rfl (by kernel_rfl) (by kernel_rfl) (by kernel_rfl) (fun _ _ _ h => h) (by rfl) ?_ (by assumption) ?_
      · intro w hSw
        go_simp
      simp only [Act.put, List.setIfInBounds_toArray, List.set_cons_zero, List.set_cons_succ]
      refine take_do (i := 10) (v := (.bool false)) rfl (by kernel_rfl) (by kernel_rfl) (by kernel_rfl) (fun _ _ _ h => h) (by rfl) ?_ (by assumption) ?_
      · intro w hSw
        go_simp
      simp only [Act.put, List.setIfInBounds_toArray, List.set_cons_zero, List.set_cons_succ]
      refine take_skip (i := 11) rfl (by kernel_rfl) (by kernel_rfl) (by kernel_rfl) (fun _ _ _ h => h) (by rfl) (by assumption) ?_
      simp only [Act.put, List.setIfInBounds_toArray, List.set_cons_zero, List.set_cons_succ]
      refine take_skip (i := 12) rfl (by kernel_rfl) (by kernel_rfl) (by kernel_rfl) (fun _ _ _ h => h) (by rfl) (by assumption) ?_
      simp only [Act.put, List.setIfInBounds_toArray, List.set_cons_zero, List.set_cons_succ]
      refine take_skip (i := 13) rfl (by kernel_rfl) (by kernel_rfl) (by kernel_rfl) (fun _ _ _ h => h) (by rfl) (by assumption) ?_
      simp only [Act.put, List.setIfInBounds_toArray, List.set_cons_zero, List.set_cons_succ]
      refine take_skip (i := 14) rfl (by kernel_rfl) (by kernel_rfl) (by kernel_rfl) (fun _ _ _ h => h) (by rfl) (by assumption) ?_
      simp only [Act.put, List.setIfInBounds_toArray, List.set_cons_zero, List.set_cons_succ]
      refine take_skip (i := 15) rfl (by kernel_rfl) (by kernel_rfl) (by kernel_rfl) (fun _ _ _ h => h) (by rfl) (by assumption) ?_
      simp only [Act.put, List.setIfInBounds_toArray, List.set_cons_zero, List.set_cons_succ]
      refine take_do (i := 16) (v := (.bool false)) rfl (by kernel_rfl) (by kernel_rfl) (by kernel_rfl) (fun _ _ _ h => h) (by rfl) ?_ (by assumption) ?_
      · intro w hSw
        go_simp
      simp only [Act.put, List.setIfInBounds_toArray, List.set_cons_zero, List.set_cons_succ]
      refine take_do (i := 17) (v := (.bool false)) rfl (by kernel_rfl) (by kernel_rfl) (by kernel_rfl) (fun _ _ _ h => h) (by rfl) ?_ (by assumption) ?_
      · intro w hSw
        go_simp
      simp only [Act.put, List.setIfInBounds_toArray, List.set_cons_zero, List.set_cons_succ]
      refine wpAnyH_done (by kernel_rfl) ?_ _
      have B9 : Hid (Below w.heap.size w _) := BW.out.trans (hHeld.1.bel.mono BW.out.size)
      clear hHeld
      go_wp2_with fail
      go_ret
      exact ⟨by rw [HE.out]; rfl, B9.out⟩
    have hqn : (Bi.nums YN == Bi.nums z.b) = true := by rw [q1]; simp
    rw [hqn] at hEQ
    by_cases q2 : N = z.n
    case neg =>
      have HE : Hid (Bi.dB (Bi.BRight t x z) = false) := Bi.dB_ff (fun h => q2 (by rw [HNB.out]; exact (HIFF.out.1 h).2.1))
      have Q2 := Lib.hid q2
      clear hqn q1 HIFF q2
      go_wp2_with fail
      refine wp_region_held_drew (S := fun V => BrS z b kb w W xb YN N aN cN (Bi.line t x) V ∧ V.rowIs (w.heap.size + 1) 30 7 (rowN (blL z.b z.n b kb))) (by kernel_rfl) ⟨⟨P7.out.bel.drew, P7.out.row.of_block rfl, P7.out.own.same (fun _ _ _ => rfl)⟩, ARG7.out.of_block rfl⟩ (fun hHeld => ?_)
      refine take_do (i := 0) (v := (.pointer (some ⟨xb, 6, none⟩))) rfl (by kernel_rfl) (by kernel_rfl) (by kernel_rfl) (fun _ _ _ h => h) (by rfl) ?_ (by assumption) ?_
      · intro w hSw
        go_simp
      simp only [Act.put, List.setIfInBounds_toArray, List.set_cons_zero, List.set_cons_succ]
      refine take_do (i := 1) (v := (.int .i64 YN.code)) rfl (by kernel_rfl) (by kernel_rfl) (by kernel_rfl) (fun _ _ _ h => h) (by rfl) ?_ (by assumption) ?_
      · intro w hSw
        obtain ⟨⟨a0, a1, a2, a3, a4, a5, a6⟩, _⟩ := rowN7 hSw.1.row
        obtain ⟨⟨b0, b1, b2, b3, b4, b5, b6⟩, _⟩ := rowN7 hSw.2
        go_simp
      simp only [Act.put, List.setIfInBounds_toArray, List.set_cons_zero, List.set_cons_succ]
      refine take_do (i := 2) (v := (.bool true)) rfl (by kernel_rfl) (by kernel_rfl) (by kernel_rfl) (fun _ _ _ h => h) (by rfl) ?_ (by assumption) ?_
      · intro w hSw
        go_simp
      simp only [Act.put, List.setIfInBounds_toArray, List.set_cons_zero, List.set_cons_succ]
      refine take_do (i := 3) (v := (.bool true)) rfl (by kernel_rfl) (by kernel_rfl) (by kernel_rfl) (fun _ _ _ h => h) (by rfl) ?_ (by assumption) ?_
      · intro w hSw
        go_simp
      simp only [Act.put, List.setIfInBounds_toArray, List.set_cons_zero, List.set_cons_succ]
      refine take_do (i := 4) (v := (blV YN N aN cN)) rfl (by kernel_rfl) (by kernel_rfl) (by kernel_rfl) (fun _ _ _ h => h) (by rfl) ?_ (by assumption) ?_
      · intro w hSw
        obtain ⟨⟨a0, a1, a2, a3, a4, a5, a6⟩, _⟩ := rowN7 hSw.1.row
        obtain ⟨⟨b0, b1, b2, b3, b4, b5, b6⟩, _⟩ := rowN7 hSw.2
        go_simp
      simp only [Act.put, List.setIfInBounds_toArray, List.set_cons_zero, List.set_cons_succ]
      refine take_do (i := 6) (v := (blV z.b z.n b kb)) rfl (by kernel_rfl) (by kernel_rfl) (by kernel_rfl) (fun _ _ _ h => h) (by rfl) ?_ (by assumption) ?_
      · intro w hSw
        obtain ⟨⟨a0, a1, a2, a3, a4, a5, a6⟩, _⟩ := rowN7 hSw.1.row
        obtain ⟨⟨b0, b1, b2, b3, b4, b5, b6⟩, _⟩ := rowN7 hSw.2
        go_simp
      simp only [Act.put, List.setIfInBounds_toArray, List.set_cons_zero, List.set_cons_succ]
      refine take_call (i := 5) rfl (by kernel_rfl) (fun K2 hK => ?_)
      go_simp
      refine (amounts_any YN N aN cN _).mono ?_
      rintro e w7 ⟨rfl, hb⟩
      go_wp2_with fail
      refine hK.out _ _ ⟨⟨hHeld.1.bel.trans (hb.mono hHeld.1.bel.size), nrow_below hHeld.1.row hb, hHeld.1.own.below hb⟩, nrow_below hHeld.2 hb⟩ (fun hHeld2 => ?_)
      clear hK hHeld hb
      have hHeld := hHeld2
      clear hHeld2
      refine take_call (i := 7) rfl (by kernel_rfl) (fun K2 hK => ?_)
      go_simp
      refine (amounts_any z.b z.n b kb _).mono ?_
      rintro e w7 ⟨rfl, hb⟩
      go_wp2_with fail
      refine hK.out _ _ ⟨⟨hHeld.1.bel.trans (hb.mono hHeld.1.bel.size), nrow_below hHeld.1.row hb, hHeld.1.own.below hb⟩, nrow_below hHeld.2 hb⟩ (fun hHeld2 => ?_)
      clear hK hHeld hb
      have hHeld := hHeld2
      clear hHeld2
      refine take_do (i := 8) (v := (.bool true)) rfl (by kernel_rfl) (by kernel_rfl) (by kernel_rfl) (fun _ _ _ h => h) (by rfl) ?_ (by assumption) ?_
      · intro w hSw
        go_simp
      simp only [Act.put, List.setIfInBounds_toArray, List.set_cons_zero, List.set_cons_succ]
      refine take_do (i := 9) (v := (.bool true)) rfl (by kernel_rfl) (by kernel_rfl) (by kernel_rfl) (fun _ _ _ h => h) (by rfl) ?_ (by assumption) ?_
      · intro w hSw
        go_simp
      simp only [Act.put, List.setIfInBounds_toArray, List.set_cons_zero, List.set_cons_succ]
      refine take_do (i := 10) (v := (.bool true)) rfl (by kernel_rfl) (by kernel_rfl) (by kernel_rfl) (fun _ _ _ h => h) (by rfl) ?_ (by assumption) ?_
      · intro w hSw
        go_simp
      simp only [Act.put, List.setIfInBounds_toArray, List.set_cons_zero, List.set_cons_succ]
      refine take_do (i := 11) (v := (.pointer (some ⟨xb, 1, none⟩))) rfl (by kernel_rfl) (by kernel_rfl) (by kernel_rfl) (fun _ _ _ h => h) (by rfl) ?_ (by assumption) ?_
      · intro w hSw
        go_simp
      simp only [Act.put, List.setIfInBounds_toArray, List.set_cons_zero, List.set_cons_succ]
      refine take_do (i := 12) (v := (.slice aN N cN)) rfl (by kernel_rfl) (by kernel_rfl) (by kernel_rfl) (fun _ _ _ h => h) (by rfl) ?_ (by assumption) ?_
      · intro w hSw
        obtain ⟨⟨a0, a1, a2, a3, a4, a5, a6⟩, _⟩ := rowN7 hSw.1.row
        obtain ⟨⟨b0, b1, b2, b3, b4, b5, b6⟩, _⟩ := rowN7 hSw.2
        go_simp
      simp only [Act.put, List.setIfInBounds_toArray, List.set_cons_zero, List.set_cons_succ]
      refine take_do (i := 13) (v := (.pointer (some ⟨w.heap.size + 1, 1, none⟩))) rfl (by kernel_rfl) (by kernel_rfl) (by kernel_rfl) (fun _ _ _ h => h) (by rfl) ?_ (by assumption) ?_
      · intro w hSw
        go_simp
      simp only [Act.put, List.setIfInBounds_toArray, List.set_cons_zero, List.set_cons_succ]
      refine take_do (i := 14) (v := (.slice b z.n kb)) rfl (by kernel_rfl) (by kernel_rfl) (by kernel_rfl) (fun _ _ _ h => h) (by rfl) ?_ (by assumption) ?_
      · intro w hSw
        obtain ⟨⟨a0, a1, a2, a3, a4, a5, a6⟩, _⟩ := rowN7 hSw.1.row
        obtain ⟨⟨b0, b1, b2, b3, b4, b5, b6⟩, _⟩ := rowN7 hSw.2
        go_simp
      simp only [Act.put, List.setIfInBounds_toArray, List.set_cons_zero, List.set_cons_succ]
      refine take_call (i := 15) rfl (by kernel_rfl) (fun K2 hK => ?_)
      go_simp
      refine (bequal_len _ _ _ _ _ _ _ Q2.out).mono ?_
      rintro e w7 ⟨rfl, hb⟩
      go_wp2_with fail
      refine hK.out _ _ ⟨⟨hHeld.1.bel.trans (hb.mono hHeld.1.bel.size), nrow_below hHeld.1.row hb, hHeld.1.own.below hb⟩, nrow_below hHeld.2 hb⟩ (fun hHeld2 => ?_)
      clear hK hHeld hb
      have hHeld := hHeld2
      clear hHeld2
      refine take_do (i := 16) (v := (.bool false)) rfl (by kernel_rfl) (by kernel_rfl) (by kernel_rfl) (fun _ _ _ h => h) (by rfl) ?_ (by assumption) ?_
      · intro w hSw
        go_simp
      simp only [Act.put, List.setIfInBounds_toArray, List.set_cons_zero, List.set_cons_succ]
      refine take_do (i := 17) (v := (.bool false)) rfl (by kernel_rfl) (by kernel_rfl) (by kernel_rfl) (fun _ _ _ h => h) (by rfl) ?_ (by assumption) ?_
      · intro w hSw
        go_simp
      simp only [Act.put, List.setIfInBounds_toArray, List.set_cons_zero, List.set_cons_succ]
      refine wpAnyH_done (by kernel_rfl) ?_ _
      have B9 : Hid (Below w.heap.size w _) := BW.out.trans (hHeld.1.bel.mono BW.out.size)
      clear hHeld
      go_wp2_with fail
      go_ret
      exact ⟨by rw [HE.out]; rfl, B9.out⟩
    cases hsm : sameB (Bi.line t x) z.L N with
    | false =>
      have HE : Hid (Bi.dB (Bi.BRight t x z) = false) := Bi.dB_ff (fun h => by
        have := sameB_iff.2 ((fun i hi => (HIFF.out.1 h).2.2 i (by rw [← q2]; exact hi)) : ∀ i, i < N → _)
        rw [hsm] at this
        cases this)
      have HSM := Lib.hid hsm
      have HLN : Hid (IsIn b N z.L W) := by show IsIn _ _ _ _; rw [q2]; exact HL.out
      rw [← q2] at ARG7 ⊢
      clear hqn q1 HIFF hsm ARG HL q2
      go_wp2_with fail
      refine wp_region_held_drew (S := fun V => BrS z b kb w W xb YN N aN cN (Bi.line t x) V ∧ V.rowIs (w.heap.size + 1) 30 7 (rowN (blL z.b N b kb))) (by kernel_rfl) ⟨⟨P7.out.bel.drew, P7.out.row.of_block rfl, P7.out.own.same (fun _ _ _ => rfl)⟩, ARG7.out.of_block rfl⟩ (fun hHeld => ?_)
      refine take_do (i := 0) (v := (.pointer (some ⟨xb, 6, none⟩))) rfl (by kernel_rfl) (by kernel_rfl) (by kernel_rfl) (fun _ _ _ h => h) (by rfl) ?_ (by assumption) ?_
      · intro w hSw
        go_simp
      simp only [Act.put, List.setIfInBounds_toArray, List.set_cons_zero, List.set_cons_succ]
      refine take_do (i := 1) (v := (.int .i64 YN.code)) rfl (by kernel_rfl) (by kernel_rfl) (by kernel_rfl) (fun _ _ _ h => h) (by rfl) ?_ (by assumption) ?_
      · intro w hSw
        obtain ⟨⟨a0, a1, a2, a3, a4, a5, a6⟩, _⟩ := rowN7 hSw.1.row
        obtain ⟨⟨b0, b1, b2, b3, b4, b5, b6⟩, _⟩ := rowN7 hSw.2
        go_simp
      simp only [Act.put, List.setIfInBounds_toArray, List.set_cons_zero, List.set_cons_succ]
      refine take_do (i := 2) (v := (.bool true)) rfl (by kernel_rfl) (by kernel_rfl) (by kernel_rfl) (fun _ _ _ h => h) (by rfl) ?_ (by assumption) ?_
      · intro w hSw
        go_simp
      simp only [Act.put, List.setIfInBounds_toArray, List.set_cons_zero, List.set_cons_succ]
      refine take_do (i := 3) (v := (.bool true)) rfl (by kernel_rfl) (by kernel_rfl) (by kernel_rfl) (fun _ _ _ h => h) (by rfl) ?_ (by assumption) ?_
      · intro w hSw
        go_simp
      simp only [Act.put, List.setIfInBounds_toArray, List.set_cons_zero, List.set_cons_succ]
      refine take_do (i := 4) (v := (blV YN N aN cN)) rfl (by kernel_rfl) (by kernel_rfl) (by kernel_rfl) (fun _ _ _ h => h) (by rfl) ?_ (by assumption) ?_
      · intro w hSw
        obtain ⟨⟨a0, a1, a2, a3, a4, a5, a6⟩, _⟩ := rowN7 hSw.1.row
        obtain ⟨⟨b0, b1, b2, b3, b4, b5, b6⟩, _⟩ := rowN7 hSw.2
        go_simp
      simp only [Act.put, List.setIfInBounds_toArray, List.set_cons_zero, List.set_cons_succ]
      refine take_do (i := 6) (v := (blV z.b N b kb)) rfl (by kernel_rfl) (by kernel_rfl) (by kernel_rfl) (fun _ _ _ h => h) (by rfl) ?_ (by assumption) ?_
      · intro w hSw
        obtain ⟨⟨a0, a1, a2, a3, a4, a5, a6⟩, _⟩ := rowN7 hSw.1.row
        obtain ⟨⟨b0, b1, b2, b3, b4, b5, b6⟩, _⟩ := rowN7 hSw.2
        go_simp
      simp only [Act.put, List.setIfInBounds_toArray, List.set_cons_zero, List.set_cons_succ]
      refine take_call (i := 5) rfl (by kernel_rfl) (fun K2 hK => ?_)
      go_simp
      refine (amounts_any YN N aN cN _).mono ?_
      rintro e w7 ⟨rfl, hb⟩
      go_wp2_with fail
      refine hK.out _ _ ⟨⟨hHeld.1.bel.trans (hb.mono hHeld.1.bel.size), nrow_below hHeld.1.row hb, hHeld.1.own.below hb⟩, nrow_below hHeld.2 hb⟩ (fun hHeld2 => ?_)
      clear hK hHeld hb
      have hHeld := hHeld2
      clear hHeld2
      refine take_call (i := 7) rfl (by kernel_rfl) (fun K2 hK => ?_)
      go_simp
      refine (amounts_any z.b N b kb _).mono ?_
      rintro e w7 ⟨rfl, hb⟩
      go_wp2_with fail
      refine hK.out _ _ ⟨⟨hHeld.1.bel.trans (hb.mono hHeld.1.bel.size), nrow_below hHeld.1.row hb, hHeld.1.own.below hb⟩, nrow_below hHeld.2 hb⟩ (fun hHeld2 => ?_)
      clear hK hHeld hb
      have hHeld := hHeld2
      clear hHeld2
      refine take_do (i := 8) (v := (.bool true)) rfl (by kernel_rfl) (by kernel_rfl) (by kernel_rfl) (fun _ _ _ h => h) (by rfl) ?_ (by assumption) ?_
      · intro w hSw
        go_simp
      simp only [Act.put, List.setIfInBounds_toArray, List.set_cons_zero, List.set_cons_succ]
      refine take_do (i := 9) (v := (.bool true)) rfl (by kernel_rfl) (by kernel_rfl) (by kernel_rfl) (fun _ _ _ h => h) (by rfl) ?_ (by assumption) ?_
      · intro w hSw
        go_simp
      simp only [Act.put, List.setIfInBounds_toArray, List.set_cons_zero, List.set_cons_succ]
      refine take_do (i := 10) (v := (.bool true)) rfl (by kernel_rfl) (by kernel_rfl) (by kernel_rfl) (fun _ _ _ h => h) (by rfl) ?_ (by assumption) ?_
      · intro w hSw
        go_simp
      simp only [Act.put, List.setIfInBounds_toArray, List.set_cons_zero, List.set_cons_succ]
      refine take_do (i := 11) (v := (.pointer (some ⟨xb, 1, none⟩))) rfl (by kernel_rfl) (by kernel_rfl) (by kernel_rfl) (fun _ _ _ h => h) (by rfl) ?_ (by assumption) ?_
      · intro w hSw
        go_simp
      simp only [Act.put, List.setIfInBounds_toArray, List.set_cons_zero, List.set_cons_succ]
      refine take_do (i := 12) (v := (.slice aN N cN)) rfl (by kernel_rfl) (by kernel_rfl) (by kernel_rfl) (fun _ _ _ h => h) (by rfl) ?_ (by assumption) ?_
      · intro w hSw
        obtain ⟨⟨a0, a1, a2, a3, a4, a5, a6⟩, _⟩ := rowN7 hSw.1.row
        obtain ⟨⟨b0, b1, b2, b3, b4, b5, b6⟩, _⟩ := rowN7 hSw.2
        go_simp
      simp only [Act.put, List.setIfInBounds_toArray, List.set_cons_zero, List.set_cons_succ]
      refine take_do (i := 13) (v := (.pointer (some ⟨w.heap.size + 1, 1, none⟩))) rfl (by kernel_rfl) (by kernel_rfl) (by kernel_rfl) (fun _ _ _ h => h) (by rfl) ?_ (by assumption) ?_
      · intro w hSw
        go_simp
      simp only [Act.put, List.setIfInBounds_toArray, List.set_cons_zero, List.set_cons_succ]
      refine take_do (i := 14) (v := (.slice b N kb)) rfl (by kernel_rfl) (by kernel_rfl) (by kernel_rfl) (fun _ _ _ h => h) (by rfl) ?_ (by assumption) ?_
      · intro w hSw
        obtain ⟨⟨a0, a1, a2, a3, a4, a5, a6⟩, _⟩ := rowN7 hSw.1.row
        obtain ⟨⟨b0, b1, b2, b3, b4, b5, b6⟩, _⟩ := rowN7 hSw.2
        go_simp
      simp only [Act.put, List.setIfInBounds_toArray, List.set_cons_zero, List.set_cons_succ]
      refine take_call (i := 15) rfl (by kernel_rfl) (fun K2 hK => ?_)
      go_simp
      refine (bequal_any aN b N cN kb (Bi.line t x) z.L _ hHeld.1.own.in_ (HLN.out.below hHeld.1.bel) (Nat.le_trans HNL.out (by omega))).mono ?_
      rintro e w7 ⟨rfl, hb⟩
      rw [HSM.out]
      go_wp2_with fail
      refine hK.out _ _ ⟨⟨hHeld.1.bel.trans (hb.mono hHeld.1.bel.size), nrow_below hHeld.1.row hb, hHeld.1.own.below hb⟩, nrow_below hHeld.2 hb⟩ (fun hHeld2 => ?_)
      clear hK hHeld hb
      have hHeld := hHeld2
      clear hHeld2
      refine take_do (i := 16) (v := (.bool false)) rfl (by kernel_rfl) (by kernel_rfl) (by kernel_rfl) (fun _ _ _ h => h) (by rfl) ?_ (by assumption) ?_
      · intro w hSw
        go_simp
      simp only [Act.put, List.setIfInBounds_toArray, List.set_cons_zero, List.set_cons_succ]
      refine take_do (i := 17) (v := (.bool false)) rfl (by kernel_rfl) (by kernel_rfl) (by kernel_rfl) (fun _ _ _ h => h) (by rfl) ?_ (by assumption) ?_
      · intro w hSw
        go_simp
      simp only [Act.put, List.setIfInBounds_toArray, List.set_cons_zero, List.set_cons_succ]
      refine wpAnyH_done (by kernel_rfl) ?_ _
      have B9 : Hid (Below w.heap.size w _) := BW.out.trans (hHeld.1.bel.mono BW.out.size)
      clear hHeld
      go_wp2_with fail
      go_ret
      exact ⟨by rw [HE.out]; rfl, B9.out⟩
    | true =>
      have HE : Hid (Bi.dB (Bi.BRight t x z) = true) := Bi.dB_tt (HIFF.out.2 ⟨q1, by rw [← HNB.out, q2], fun i hi => sameB_iff.1 hsm i (by rw [q2]; exact hi)⟩)
      have HSM := Lib.hid hsm
      have HLN : Hid (IsIn b N z.L W) := by show IsIn _ _ _ _; rw [q2]; exact HL.out
      rw [← q2] at ARG7 ⊢
      clear hqn q1 HIFF hsm ARG HL q2
      go_wp2_with fail
      refine wp_region_held_drew (S := fun V => BrS z b kb w W xb YN N aN cN (Bi.line t x) V ∧ V.rowIs (w.heap.size + 1) 30 7 (rowN (blL z.b N b kb))) (by kernel_rfl) ⟨⟨P7.out.bel.drew, P7.out.row.of_block rfl, P7.out.own.same (fun _ _ _ => rfl)⟩, ARG7.out.of_block rfl⟩ (fun hHeld => ?_)
      refine take_do (i := 0) (v := (.pointer (some ⟨xb, 6, none⟩))) rfl (by kernel_rfl) (by kernel_rfl) (by kernel_rfl) (fun _ _ _ h => h) (by rfl) ?_ (by assumption) ?_
      · intro w hSw
        go_simp
      simp only [Act.put, List.setIfInBounds_toArray, List.set_cons_zero, List.set_cons_succ]
      refine take_do (i := 1) (v := (.int .i64 YN.code)) rfl (by kernel_rfl) (by kernel_rfl) (by kernel_rfl) (fun _ _ _ h => h) (by rfl) ?_ (by assumption) ?_
      · intro w hSw
        obtain ⟨⟨a0, a1, a2, a3, a4, a5, a6⟩, _⟩ := rowN7 hSw.1.row
        obtain ⟨⟨b0, b1, b2, b3, b4, b5, b6⟩, _⟩ := rowN7 hSw.2
        go_simp
      simp only [Act.put, List.setIfInBounds_toArray, List.set_cons_zero, List.set_cons_succ]
      refine take_do (i := 2) (v := (.bool true)) rfl (by kernel_rfl) (by kernel_rfl) (by kernel_rfl) (fun _ _ _ h => h) (by rfl) ?_ (by assumption) ?_
      · intro w hSw
        go_simp
      simp only [Act.put, List.setIfInBounds_toArray, List.set_cons_zero, List.set_cons_succ]
      refine take_do (i := 3) (v := (.bool true)) rfl (by kernel_rfl) (by kernel_rfl) (by kernel_rfl) (fun _ _ _ h => h) (by rfl) ?_ (by assumption) ?_
      · intro w hSw
        go_simp
      simp only [Act.put, List.setIfInBounds_toArray, List.set_cons_zero, List.set_cons_succ]
      refine take_do (i := 4) (v := (blV YN N aN cN)) rfl (by kernel_rfl) (by kernel_rfl) (by kernel_rfl) (fun _ _ _ h => h) (by rfl) ?_ (by assumption) ?_
      · intro w hSw
        obtain ⟨⟨a0, a1, a2, a3, a4, a5, a6⟩, _⟩ := rowN7 hSw.1.row
        obtain ⟨⟨b0, b1, b2, b3, b4, b5, b6⟩, _⟩ := rowN7 hSw.2
        go_simp
      simp only [Act.put, List.setIfInBounds_toArray, List.set_cons_zero, List.set_cons_succ]
      refine take_do (i := 6) (v := (blV z.b N b kb)) rfl (by kernel_rfl) (by kernel_rfl) (by kernel_rfl) (fun _ _ _ h => h) (by rfl) ?_ (by assumption) ?_
      · intro w hSw
        obtain ⟨⟨a0, a1, a2, a3, a4, a5, a6⟩, _⟩ := rowN7 hSw.1.row
        obtain ⟨⟨b0, b1, b2, b3, b4, b5, b6⟩, _⟩ := rowN7 hSw.2
        go_simp
      simp only [Act.put, List.setIfInBounds_toArray, List.set_cons_zero, List.set_cons_succ]
      refine take_call (i := 5) rfl (by kernel_rfl) (fun K2 hK => ?_)
      go_simp
      refine (amounts_any YN N aN cN _).mono ?_
      rintro e w7 ⟨rfl, hb⟩
      go_wp2_with fail
      refine hK.out _ _ ⟨⟨hHeld.1.bel.trans (hb.mono hHeld.1.bel.size), nrow_below hHeld.1.row hb, hHeld.1.own.below hb⟩, nrow_below hHeld.2 hb⟩ (fun hHeld2 => ?_)
      clear hK hHeld hb
      have hHeld := hHeld2
      clear hHeld2
      refine take_call (i := 7) rfl (by kernel_rfl) (fun K2 hK => ?_)
      go_simp
      refine (amounts_any z.b N b kb _).mono ?_
      rintro e w7 ⟨rfl, hb⟩
      go_wp2_with fail
      refine hK.out _ _ ⟨⟨hHeld.1.bel.trans (hb.mono hHeld.1.bel.size), nrow_below hHeld.1.row hb, hHeld.1.own.below hb⟩, nrow_below hHeld.2 hb⟩ (fun hHeld2 => ?_)
      clear hK hHeld hb
      have hHeld := hHeld2
      clear hHeld2
      refine take_do (i := 8) (v := (.bool true)) rfl (by kernel_rfl) (by kernel_rfl) (by kernel_rfl) (fun _ _ _ h => h) (by rfl) ?_ (by assumption) ?_
      · intro w hSw
        go_simp
      simp only [Act.put, List.setIfInBounds_toArray, List.set_cons_zero, List.set_cons_succ]
      refine take_do (i := 9) (v := (.bool true)) rfl (by kernel_rfl) (by kernel_rfl) (by kernel_rfl) (fun _ _ _ h => h) (by rfl) ?_ (by assumption) ?_
      · intro w hSw
        go_simp
      simp only [Act.put, List.setIfInBounds_toArray, List.set_cons_zero, List.set_cons_succ]
      refine take_do (i := 10) (v := (.bool true)) rfl (by kernel_rfl) (by kernel_rfl) (by kernel_rfl) (fun _ _ _ h => h) (by rfl) ?_ (by assumption) ?_
      · intro w hSw
        go_simp
      simp only [Act.put, List.setIfInBounds_toArray, List.set_cons_zero, List.set_cons_succ]
      refine take_do (i := 11) (v := (.pointer (some ⟨xb, 1, none⟩))) rfl (by kernel_rfl) (by kernel_rfl) (by kernel_rfl) (fun _ _ _ h => h) (by rfl) ?_ (by assumption) ?_
      · intro w hSw
        go_simp
      simp only [Act.put, List.setIfInBounds_toArray, List.set_cons_zero, List.set_cons_succ]
      refine take_do (i := 12) (v := (.slice aN N cN)) rfl (by kernel_rfl) (by kernel_rfl) (by kernel_rfl) (fun _ _ _ h => h) (by rfl) ?_ (by assumption) ?_
      · intro w hSw
        obtain ⟨⟨a0, a1, a2, a3, a4, a5, a6⟩, _⟩ := rowN7 hSw.1.row
        obtain ⟨⟨b0, b1, b2, b3, b4, b5, b6⟩, _⟩ := rowN7 hSw.2
        go_simp
      simp only [Act.put, List.setIfInBounds_toArray, List.set_cons_zero, List.set_cons_succ]
      refine take_do (i := 13) (v := (.pointer (some ⟨w.heap.size + 1, 1, none⟩))) rfl (by kernel_rfl) (by kernel_rfl) (by kernel_rfl) (fun _ _ _ h => h) (by rfl) ?_ (by assumption) ?_
      · intro w hSw
        go_simp
      simp only [Act.put, List.setIfInBounds_toArray, List.set_cons_zero, List.set_cons_succ]
      refine take_do (i := 14) (v := (.slice b N kb)) rfl (by kernel_rfl) (by kernel_rfl) (by kernel_rfl) (fun _ _ _ h => h) (by rfl) ?_ (by assumption) ?_
      · intro w hSw
        obtain ⟨⟨a0, a1, a2, a3, a4, a5, a6⟩, _⟩ := rowN7 hSw.1.row
        obtain ⟨⟨b0, b1, b2, b3, b4, b5, b6⟩, _⟩ := rowN7 hSw.2
        go_simp
      simp only [Act.put, List.setIfInBounds_toArray, List.set_cons_zero, List.set_cons_succ]
      refine take_call (i := 15) rfl (by kernel_rfl) (fun K2 hK => ?_)
      go_simp
      refine (bequal_any aN b N cN kb (Bi.line t x) z.L _ hHeld.1.own.in_ (HLN.out.below hHeld.1.bel) (Nat.le_trans HNL.out (by omega))).mono ?_
      rintro e w7 ⟨rfl, hb⟩
      rw [HSM.out]
      go_wp2_with fail
      refine hK.out _ _ ⟨⟨hHeld.1.bel.trans (hb.mono hHeld.1.bel.size), nrow_below hHeld.1.row hb, hHeld.1.own.below hb⟩, nrow_below hHeld.2 hb⟩ (fun hHeld2 => ?_)
      clear hK hHeld hb
      have hHeld := hHeld2
      clear hHeld2
      refine take_do (i := 16) (v := (.bool true)) rfl (by kernel_rfl) (by kernel_rfl) (by kernel_rfl) (fun _ _ _ h => h) (by rfl) ?_ (by assumption) ?_
      · intro w hSw
        go_simp
      simp only [Act.put, List.setIfInBounds_toArray, List.set_cons_zero, List.set_cons_succ]
      refine take_do (i := 17) (v := (.bool true)) rfl (by kernel_rfl) (by kernel_rfl) (by kernel_rfl) (fun _ _ _ h => h) (by rfl) ?_ (by assumption) ?_
      · intro w hSw
        go_simp
      simp only [Act.put, List.setIfInBounds_toArray, List.set_cons_zero, List.set_cons_succ]
      refine wpAnyH_done (by kernel_rfl) ?_ _
      have B9 : Hid (Below w.heap.size w _) := BW.out.trans (hHeld.1.bel.mono BW.out.size)
      clear hHeld
      go_wp2_with fail
      go_ret
      exact ⟨by rw [HE.out]; rfl, B9.out⟩
end Go.Proofs.YtnbnfifgajfomaaDoor
