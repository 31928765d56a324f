/-
  What the law FnSplit calls.
-/
import Derived.Test.YtoeibcmmpbkbpaaDoorWkD2
import Derived.Test.YtoeibcmmpbkbpaaDoorWkPa
import Derived.Test.YtoeibcmmpbkbpaaDoorWkS2
import Derived.Test.YtoeibcmmpbkbpaaDoorWkMz
import Derived.Test.YtoeibcmmpbkbpaaDoorStLw
namespace Go.Proofs.YtoeibcmmpbkbpaaDoor
open Go.RowKit Go.Deep

theorem pa_code (A : Wk.PA) (ax : Option Addr) (kx : Nat) (ay : Option Addr) (ky : Nat) (w : World) : (Instr.field 53 (paV A ax kx ay ky) 2).run Tryd.prog w = .ok (.int .i64 A.c) w := by kernel_rfl
namespace Wk
theorem split_yes {b : Bt} {water : Int} (h : (split b water).c = 0) : SplitOk b water ∧ split b water = ⟨⟨water, b.n, share b water⟩, cut b water (share b water), 0⟩ := by
  unfold split at h ⊢
  by_cases hk : SplitOk b water
  · rw [if_pos hk]; exact ⟨hk, rfl⟩
  · rw [if_neg hk] at h; simp [bad] at h
theorem settle_yes {b : Bt} {m : Nat} {mi : Nat → Int} (h : (settle b m mi).c = 0) : SettleOk b m mi ∧ settle b m mi = ⟨cut b 0 (sett b mi), ⟨0, b.n, sett b mi⟩, 0⟩ := by
  unfold settle at h ⊢
  by_cases h4 : 400 < m
  · rw [if_pos h4] at h; simp [bad] at h
  · rw [if_neg h4] at h ⊢
    by_cases hk : SettleOk b m mi
    · rw [if_pos hk]; exact ⟨hk, rfl⟩
    · rw [if_neg hk] at h; simp [bad] at h
/-- Two parts of a batch, mixed, are that batch. -/
theorem mix_two {b : Bt} (h : Ok b) {bs : Nat → Bt} (h0 : (bs 0).n = b.n) (h1 : (bs 1).n = b.n) (hw : (bs 0).wt + (bs 1).wt = b.wt) (w0 : 0 ≤ (bs 0).wt) (w1 : 0 ≤ (bs 1).wt) (hf : ∀ j, j < b.n → (bs 0).f j + (bs 1).f j = b.f j ∧ 0 ≤ (bs 0).f j ∧ 0 ≤ (bs 1).f j) :
    (mix 2 bs).c = 0 ∧ (mix 2 bs).x.wt = b.wt ∧ (mix 2 bs).x.n = b.n ∧ ∀ j, j < b.n → (mix 2 bs).x.f j = b.f j := by
  have hb := h.1
  have ha : AllOk 2 bs := ⟨by omega, fun i hi => by
    have : i = 0 ∨ i = 1 := by omega
    rcases this with rfl | rfl
    · refine ⟨⟨⟨w0, by omega⟩, by rw [h0]; exact h.2.1, fun j hj => ?_⟩, rfl⟩
      rw [h0] at hj
      have h2 := hf j hj
      have h3 := h.2.2 j hj
      omega
    · refine ⟨⟨⟨w1, by omega⟩, by rw [h1]; exact h.2.1, fun j hj => ?_⟩, by rw [h0, h1]⟩
      rw [h1] at hj
      have h2 := hf j hj
      have h3 := h.2.2 j hj
      omega⟩
  have hsum : ∀ j, sumP bs j 2 = (bs 0).f j + (bs 1).f j := fun j => by simp [sumP]
  have hsw : sumW bs 2 = b.wt := by simp [sumW]; exact hw
  have hm : Ok (mixed 2 bs) := ⟨by show 0 ≤ sumW bs 2 ∧ sumW bs 2 ≤ 1000000000; rw [hsw]; exact hb, by show (bs 0).n ≤ 6; rw [h0]; exact h.2.1, fun j hj => by
    show 0 ≤ sumP bs j 2 ∧ sumP bs j 2 ≤ 1000000000
    have hj' : j < b.n := by rw [← h0]; exact hj
    rw [hsum, (hf j hj').1]
    exact h.2.2 j hj'⟩
  unfold mix
  rw [if_neg (by omega), if_pos ha, if_pos hm]
  exact ⟨rfl, hsw, h0, fun j hj => by show sumP bs j 2 = _; rw [hsum]; exact (hf j hj).1⟩
end Wk
theorem lwCopyP_any (lo hi : Nat) (a : Option Addr) (n k : Nat) (f : Nat → Int) (w : World) (h : PtM lo hi a n k f w) (hn : n ≤ 1000) :
    Calls Tryd.prog 21 #[.slice a n k] w fun e w' => (∃ a c, e = .returned (.slice a n c) ∧ IntsAt a n f w') ∧ Below w.heap.size w w' := by
  rcases h with ⟨rfl, rfl, rfl⟩ | ⟨g, rfl, _, h⟩
  · refine (lwCopyNil_any w).mono ?_
    rintro e W ⟨⟨a, c, rfl⟩, hb⟩
    exact ⟨⟨a, c, rfl, Or.inl rfl⟩, hb⟩
  · exact lwCopyS_any g n k f w h hn
set_option maxRecDepth 100000 in
set_option maxHeartbeats 2000000 in
theorem lwSame_any (a b : Option Addr) (n ca cb : Nat) (f g : Nat → Int) (w : World) (h1 : IntsAt a n f w) (h2 : IntsAt b n g w) (he : ∀ j, j < n → f j = g j) (hn : n ≤ 1048576) :
    Calls Tryd.prog 88 #[.slice a n ca, .slice b n cb] w fun e w' => e = .returned (.bool true) ∧ Below w.heap.size w w' := by
  have H1 := Lib.hid h1
  have H2 := Lib.hid h2
  have HE := Lib.hid he
  clear h1 h2 he
  go_enter Tryd.func88, Tryd.ntmps88
  go_wp2_with fail
  go_loopw [5] (fun iv wr => ∃ (i : Nat), i ≤ n ∧ iv = .int .i64 i ∧ Hid (Below w.heap.size w wr)) (fun iv _ => n - (intOf iv).toNat)
  case atStart => exact ⟨0, Nat.zero_le _, rfl, Below.refl _ _⟩
  case round =>
    obtain ⟨i, hi, rfl, hB⟩ := hrel
    by_cases hlt : i < n
    · have hltz : (i : Int) < (n : Int) := by omega
      obtain ⟨b1, rfl, k1⟩ := (H1.out.below hB.out).at_ hlt
      obtain ⟨b2, rfl, k2⟩ := (H2.out.below hB.out).at_ hlt
      rw [← HE.out i hlt] at k2
      go_wp2_with fail
      go_region
      go_wp2_with fail
      go_roundw
      case rel => exact ⟨i + 1, by omega, by go_num, hB.out.drew⟩
      case measure => simp [intOf]; omega
    · obtain rfl : i = n := by omega
      go_wp2_with fail
      go_ret
      exact ⟨rfl, hB.out⟩
set_option maxRecDepth 100000 in
set_option maxHeartbeats 2000000 in
theorem lwBatch_any (wt : Int) (a b : Option Addr) (n ca cb : Nat) (f g : Nat → Int) (w : World) (h1 : IntsAt a n f w) (h2 : IntsAt b n g w) (he : ∀ j, j < n → f j = g j) (hn : n ≤ 1048576) :
    Calls Tryd.prog 27 #[btV wt a n ca, btV wt b n cb] w fun e w' => e = .returned (.bool true) ∧ Below w.heap.size w w' := by
  obtain ⟨W, hW⟩ : ∃ W, W = (w.alloc (.cells #[.int .i64 wt, .slice a n ca] 49)).alloc (.cells #[.int .i64 wt, .slice b n cb] 49) := ⟨_, rfl⟩
  have hB : Below w.heap.size w W := by rw [hW]; exact ((Below.refl _ _).alloc (Nat.le_refl _) _).alloc (by simp) _
  have HW := Lib.hid hW
  have HB := Lib.hid hB
  have H1 := Lib.hid h1
  have H2 := Lib.hid h2
  have HE := Lib.hid he
  clear hW hB h1 h2 he
  go_enter Tryd.func27, Tryd.ntmps27
  go_wp2_with fail
  rw [← HW.out]
  refine (lwSame_any a b n ca cb f g _ (H1.out.below HB.out) (H2.out.below HB.out) HE.out hn).mono ?_
  rintro e w1 ⟨rfl, hb1⟩
  have HB1 : Hid (Below w.heap.size w w1) := HB.out.trans (hb1.mono HB.out.size)
  clear hb1
  go_wp2_with fail
  go_ret
  exact ⟨rfl, HB1.out⟩
/-- A list of two batches, laid anew. -/
theorem two_at {W : World} {A : Wk.PA} {ax : Option Addr} {kx : Nat} {ay : Option Addr} {ky : Nat} (hx : IntsAt ax A.x.n A.x.f W) (hy : IntsAt ay A.y.n A.y.f W) : BtsAt (some ⟨W.heap.size, 0, none⟩) 2 (fun i => if i = 0 then ⟨A.x.wt, ax, A.x.n, kx, A.x.f⟩ else ⟨A.y.wt, ay, A.y.n, ky, A.y.f⟩) (W.alloc (.cells #[.int .i64 A.x.wt, .slice ax A.x.n kx, .int .i64 A.y.wt, .slice ay A.y.n ky] 49)) := by
  refine Or.inr ⟨W.heap.size, rfl, fun i hi => ?_⟩
  have h2 : i = 0 ∨ i = 1 := by omega
  rcases h2 with rfl | rfl
  · refine ⟨⟨?_, ?_⟩, hx.below (bel_alloc _ _)⟩ <;> (simp only [World.cell?, blk_alloc_new]; rfl)
  · refine ⟨⟨?_, ?_⟩, hy.below (bel_alloc _ _)⟩ <;> (simp only [World.cell?, blk_alloc_new]; rfl)
/-- What stands in the law: a batch in its box. -/
structure LF (w : World) (b5 : Nat) (wt : Int) (a : Option Addr) (N k : Nat) (f : Nat → Int) (W : World) : Prop where
  box : W.rowIs b5 49 2 (r2 (.int .i64 wt) (.slice a N k))
  at_ : IntsAt a N f W
  bel : Below w.heap.size w W
theorem LF.below {w : World} {b5 : Nat} {wt : Int} {a : Option Addr} {N k : Nat} {f : Nat → Int} {W W' : World} (h : LF w b5 wt a N k f W) (hb : Below W.heap.size W W') : LF w b5 wt a N k f W' := ⟨wrow_below h.box hb, h.at_.below hb, h.bel.trans (hb.mono h.bel.size)⟩
/-- The answer's box, and the batch. -/
structure LG (w : World) (b5 : Nat) (wt : Int) (a : Option Addr) (N k : Nat) (f : Nat → Int) (A : Wk.PA) (g7 : Nat) (ax : Option Addr) (kx : Nat) (ay : Option Addr) (ky : Nat) (W : World) : Prop where
  lf : LF w b5 wt a N k f W
  row : W.rowIs g7 53 5 (rowL (paL A ax kx ay ky))
  px : IntsAt ax A.x.n A.x.f W
  py : IntsAt ay A.y.n A.y.f W
theorem LG.below {w : World} {b5 : Nat} {wt : Int} {a : Option Addr} {N k : Nat} {f : Nat → Int} {A : Wk.PA} {g7 : Nat} {ax : Option Addr} {kx : Nat} {ay : Option Addr} {ky : Nat} {W W' : World} (h : LG w b5 wt a N k f A g7 ax kx ay ky W) (hb : Below W.heap.size W W') : LG w b5 wt a N k f A g7 ax kx ay ky W' := ⟨h.lf.below hb, wrow_below h.row hb, h.px.below hb, h.py.below hb⟩
theorem put5_row {w : World} {g : Nat} {t : TypeId} {F : Nat → Value} (h : w.rowIs g t 5 F) (x0 x1 x2 x3 x4 : Value) : (put5 w g x0 x1 x2 x3 x4).rowIs g t 5 (rowL [x0, x1, x2, x3, x4]) := by
  obtain ⟨cur, h1, h2, h3⟩ := ((((h.set 0 x0).set 1 x1).set 2 x2).set 3 x3).set 4 x4
  refine ⟨cur, h1, h2, fun i hi => ?_⟩
  rw [h3 i hi]
  have : i = 0 ∨ i = 1 ∨ i = 2 ∨ i = 3 ∨ i = 4 := by omega
  rcases this with rfl | rfl | rfl | rfl | rfl <;> rfl
end Go.Proofs.YtoeibcmmpbkbpaaDoor
