/-
  The draws of the laws FnNight and FnBurst.
-/
import Derived.Test.YtlipgnjknfmikaaLkDr
namespace Go.Proofs.Ytlipgnjknfmikaa
open Go.RowKit Go.Deep

/-- A drawn list of floats. -/
def Drawn (w : World) (v : Value) (zs : List Nat) (W : World) : Prop := ∃ g cap, v = .slice (some ⟨g, 0, none⟩) zs.length cap ∧ zs.length ≤ cap ∧ zs.length ≤ 401 ∧ FlAt (some ⟨g, 0, none⟩) zs.length (Fl.el zs) W ∧ g < W.heap.size ∧ Below w.heap.size w W

theorem drawn_of {w w1 w2 W : World} {sb : Nat} {v : Value} {zs : List Nat} (hsb : sb = w.heap.size) (h1 : Below w.heap.size w w1) (h2 : Drew sb w1 w2) (hF : FL w2 sb v zs W) (hl : zs.length ≤ 401) : Drawn w v zs W := by
  obtain ⟨g, cap, e, h3, h4, h5, h6⟩ := hF.1.room
  have k1 := h2.2.below (B := w.heap.size) (by omega) h1.size
  have k2 := hF.2.1.2.below (B := w.heap.size) (by omega) (Nat.le_trans h1.size k1.size)
  exact ⟨g, cap, e, h5, hl, own_at h6, h4, h1.trans (k1.trans k2)⟩
theorem Drawn.later {w W W' : World} {sb : Nat} {v : Value} {zs : List Nat} (h : Drawn w v zs W) (hsb : sb = w.heap.size) (hd : Drew sb W W') (hg : ∀ g cap, v = .slice (some ⟨g, 0, none⟩) zs.length cap → g ≠ sb) : Drawn w v zs W' := by
  obtain ⟨g, cap, e, h1, h2, h3, h4, h5⟩ := h
  refine ⟨g, cap, e, h1, h2, ?_, Nat.lt_of_lt_of_le h4 hd.2.size, h5.trans (hd.2.below (by omega) h5.size)⟩
  rcases h3 with h3 | ⟨g', e', h3⟩
  · exact Or.inl h3
  · cases e'
    exact Or.inr ⟨g, rfl, fun i hi => (hd.2.cell (p := ⟨g, i, none⟩) h4 (hg g cap e)).trans (h3 i hi)⟩

theorem Drawn.below {w W W' : World} {v : Value} {zs : List Nat} (h : Drawn w v zs W) (hb : Below W.heap.size W W') : Drawn w v zs W' := by
  obtain ⟨g, cap, e, h1, h2, h3, h4, h5⟩ := h
  exact ⟨g, cap, e, h1, h2, h3.below hb, Nat.lt_of_lt_of_le h4 hb.size, h5.trans (hb.mono h5.size)⟩

set_option maxHeartbeats 1000000 in
theorem drawNL_any (a : Option Addr) (len cap : Nat) (w : World) (h : Bytes a len w) (hl : len ≤ 1048576) :
    Calls Try.prog 9 #[.slice a len cap] w fun e w' => ∃ v zs, e = .returned v ∧ Drawn w v zs w' := by
  have H := Lib.hid h
  clear h
  go_enter Try.func9, Try.ntmps9
  go_wp2_with fail
  refine (source_any _ _ _ _ H.out (by omega)).mono ?_
  rintro e w1 ⟨rfl, hS, hb⟩
  have HB := Lib.hid hb
  have HS := Lib.hid hS
  clear hb hS
  go_wp2_with fail
  refine (readsL_any _ _ HS.out).mono ?_
  rintro e w2 ⟨v, rfl, w3, zs, hz, hF, hD⟩
  have HF := Lib.hid (drawn_of rfl HB.out hD hF hz)
  clear hF hD hz
  go_wp2_with fail
  go_ret
  exact ⟨_, zs, rfl, HF.out⟩
set_option maxRecDepth 100000 in
set_option maxHeartbeats 4000000 in
theorem drawBu_any (a : Option Addr) (len cap : Nat) (w : World) (h : Bytes a len w) (hl : len ≤ 1048576) :
    Calls Try.prog 17 #[.slice a len cap] w fun e w' => ∃ v zs z t, e = .returned (.tuple #[v, .int .i64 z, .float .f64 t]) ∧ Drawn w v zs w' := by
  have H := Lib.hid h
  clear h
  go_enter Try.func17, Try.ntmps17
  go_wp2_with fail
  refine (source_any _ _ _ _ H.out (by omega)).mono ?_
  rintro e w1 ⟨rfl, hS, hb⟩
  have HB := Lib.hid hb
  have HS := Lib.hid hS
  clear hb hS
  go_wp2_with fail
  refine (readsL_any _ _ HS.out).mono ?_
  rintro e w2 ⟨v, rfl, w3, zs, hz, hF, hD⟩
  have HF := Lib.hid (drawn_of rfl HB.out hD hF hz)
  have HS2 := Lib.hid hF.2.1.1
  have HNE : Hid (∀ g cap, v = .slice (some ⟨g, 0, none⟩) zs.length cap → g ≠ w.heap.size) := fun g cap e => by
    obtain ⟨g', cap', e', h3, h4, _⟩ := hF.1.room
    rw [e'] at e
    cases e
    have := hF.2.2
    omega
  clear hF hD hz HB HS
  go_wp2_with fail
  refine (n_any _ 6 _ HS2.out (by omega)).mono ?_
  rintro e w4 ⟨⟨y, rfl, y0, y1, _⟩, hD⟩
  have y2 : y < 6 := y1 (by omega)
  replace HF := Lib.hid (HF.out.later rfl hD HNE.out)
  have HS4 := Lib.hid hD.1
  clear hD y1 HS2
  go_wp2_with fail
  refine (one_any _ 12 _ HS4.out (by omega)).mono ?_
  rintro e w5 ⟨⟨b, rfl⟩, hD⟩
  replace HF := Lib.hid (HF.out.later rfl hD HNE.out)
  have HS5 := Lib.hid hD.1
  clear hD HS4
  go_upto_if 16 with fail
  go_cut [7] from 17 to 21 (fun zv wx => ∃ z : Int, zv = .int .i64 z ∧ Hid (Src w.heap.size wx ∧ Drawn w v zs wx))
  case first =>
    cases b
    · go_wp2_with fail
      go_meet
      case rel => exact ⟨_, rfl, HS5.out, HF.out⟩
    · go_wp2_with fail
      have hb : Below w5.heap.size w5 (w5.alloc (.cells #[.int .i64 0, .int .i64 1, .int .i64 400, .int .i64 401] 2)) := bel_alloc _ _
      have hr := rowL_alloc w5 [.int .i64 0, .int .i64 1, .int .i64 400, .int .i64 401] 2
      have hl5 := HS5.out.lt
      replace HF := Lib.hid (HF.out.below hb)
      replace HS5 := Lib.hid (HS5.out.below hb)
      refine (n_any _ 4 _ HS5.out (by omega)).mono ?_
      rintro e w6 ⟨⟨y', rfl, y0', y1', _⟩, hD⟩
      have y2' : y' < 4 := y1' (by omega)
      have hr6 : w6.rowIs w5.heap.size 2 4 (rowL [.int .i64 0, .int .i64 1, .int .i64 400, .int .i64 401]) := hr.of_block (hD.2.2.2.2.2 _ hr.lt (by omega))
      have q0 : w6.cell? ⟨w5.heap.size, 0, none⟩ = some (.int .i64 0) := hr6.cell (i := 0) (by omega)
      have q1 : w6.cell? ⟨w5.heap.size, 1, none⟩ = some (.int .i64 1) := hr6.cell (i := 1) (by omega)
      have q2 : w6.cell? ⟨w5.heap.size, 2, none⟩ = some (.int .i64 400) := hr6.cell (i := 2) (by omega)
      have q3 : w6.cell? ⟨w5.heap.size, 3, none⟩ = some (.int .i64 401) := hr6.cell (i := 3) (by omega)
      replace HF := Lib.hid (HF.out.later rfl hD HNE.out)
      have HS6 := Lib.hid hD.1
      clear hD y1' HS5 hb hr hr6 hl5
      obtain hy | hy | hy | hy : y' = 0 ∨ y' = 1 ∨ y' = 2 ∨ y' = 3 := by omega
      · subst hy
        go_wp2_with fail
        go_meet
        case rel => exact ⟨_, rfl, HS6.out, HF.out⟩
      · subst hy
        go_wp2_with fail
        go_meet
        case rel => exact ⟨_, rfl, HS6.out, HF.out⟩
      · subst hy
        go_wp2_with fail
        go_meet
        case rel => exact ⟨_, rfl, HS6.out, HF.out⟩
      · subst hy
        go_wp2_with fail
        go_meet
        case rel => exact ⟨_, rfl, HS6.out, HF.out⟩
  case rest =>
    clear HF HS5 y0 y2
    obtain ⟨z, rfl, hH⟩ := hcut
    obtain ⟨w7, hw7⟩ : ∃ w', w' = wc := ⟨_, rfl⟩
    rw [← hw7] at hH ⊢
    clear hw7
    go_wp2_with fail
    refine (one_any _ 8 _ hH.out.1 (by omega)).mono ?_
    rintro e w8 ⟨⟨b2, rfl⟩, hD⟩
    have HF := Lib.hid (hH.out.2.later rfl hD HNE.out)
    have HS := Lib.hid hD.1
    clear hD hH
    cases b2
    · go_wp2_with fail
      refine (n_any _ 60 _ HS.out (by omega)).mono ?_
      rintro e w9 ⟨⟨y, rfl, y0, y1, _⟩, hD⟩
      have y2 : y < 60 := y1 (by omega)
      replace HF := Lib.hid (HF.out.later rfl hD HNE.out)
      clear hD y1 HS
      obtain ⟨gg, kk, ha⟩ := arith_any .quo (by simp) (floatOfInt .f64 y) 4625196817309499392
      go_wp2_with fail
      exact bodyPost_ret (v := .tuple #[v, .int .i64 z, .float .f64 (gg w9)]) (by simp [results, Try.results17, go_sem]) rfl ⟨v, zs, z, _, rfl, HF.out.below (below_drewN (Below.refl _ _) _)⟩
    · go_wp2_with fail
      refine (float_any _ _ HS.out).mono ?_
      rintro e w9 ⟨⟨t, rfl⟩, hD⟩
      replace HF := Lib.hid (HF.out.later rfl hD HNE.out)
      clear hD HS
      go_wp2_with fail
      exact bodyPost_ret (v := .tuple #[v, .int .i64 z, .float .f64 t]) (by simp [results, Try.results17, go_sem]) rfl ⟨v, zs, z, _, rfl, HF.out⟩
end Go.Proofs.Ytlipgnjknfmikaa
