/-
  The model's test of nets.
-/
import Derived.Test.YtkaokfmaecdkiaaGreatDoorNtI1
namespace Go.Proofs.YtkaokfmaecdkiaaGreatDoor
open Go.RowKit Go.Deep

set_option maxRecDepth 100000 in
set_option maxHeartbeats 2000000 in
theorem all_any (a : Option Addr) (m cap : Nat) (f : Nat → Int) (lo up : Int) (w : World) (h : IsAt a m f w) (hm : m ≤ 1048576) :
    Calls Tryz.prog 56 #[.slice a m cap, .int .i64 lo, .int .i64 up] w fun e w' => BoolEnd (∀ i, i < m → lo ≤ f i ∧ f i ≤ up) e ∧ Below w.heap.size w w' := by
  have H := Lib.hid h
  clear h
  go_enter Tryz.func56, Tryz.ntmps56
  go_wp2_with fail
  go_loopw [7] (fun iv wr => ∃ (i : Nat), i ≤ m ∧ iv = .int .i64 i ∧ Hid (Below w.heap.size w wr) ∧ Hid (∀ j, j < i → lo ≤ f j ∧ f j ≤ up)) (fun iv _ => m - (intOf iv).toNat)
  case atStart => exact ⟨0, Nat.zero_le _, rfl, Below.refl _ _, fun j hj => absurd hj (Nat.not_lt_zero _)⟩
  case round =>
    obtain ⟨i, hi, rfl, hB, hP⟩ := hrel
    by_cases hlt : i < m
    · have hltz : (i : Int) < (m : Int) := by omega
      obtain ⟨b, e, c0⟩ := (H.out.below hB.out).at1 hlt
      subst e
      by_cases h4 : f i < lo
      · go_wp2_with fail
        try go_quiet (fail)
        go_ret
        exact ⟨BoolEnd.ff (fun k => by have := (k i hlt).1; omega), by first | exact hB.out | exact hB.out.drew⟩
      · by_cases h5 : up < f i
        · go_wp2_with fail
          try go_quiet (fail)
          go_ret
          exact ⟨BoolEnd.ff (fun k => by have := (k i hlt).2; omega), by first | exact hB.out | exact hB.out.drew⟩
        · go_wp2_with fail
          try go_quiet (fail)
          go_roundw
          case rel =>
            refine ⟨i + 1, by omega, by go_num, by first | exact hB | exact hB.out.drew, fun j hj => ?_⟩
            by_cases ej : j = i
            · subst ej; exact ⟨by omega, by omega⟩
            · exact hP.out j (by omega)
          case measure => simp [intOf]; omega
    · obtain rfl : i = m := by omega
      go_wp2_with fail
      go_ret
      exact ⟨BoolEnd.tt hP.out, hB.out⟩
/-- The test ahead of all lists. -/
def Nt0 (n : Nt.Net) : Prop := 1 ≤ n.nodes ∧ n.nodes ≤ 12 ∧ n.ln ≤ 40 ∧ (n.fn : Int) ≤ n.nodes ∧ (n.wn : Int) = n.nodes
theorem nt0_right {n : Nt.Net} : (Nt0 n ∧ (∀ i, i < n.ln → Nt.linkOk n i) ∧ (∀ i, i < n.fn → Nt.fixOk n i) ∧ ∀ i, i < n.wn → Nt.wantOk n i) ↔ Nt.Right n :=
  ⟨fun ⟨⟨a, b, c, _, e⟩, f, g, h⟩ => ⟨a, b, c, e, f, g, h⟩, fun h => ⟨⟨h.n1, h.n2, h.ln, Nt.fn_le n h.f (by have := h.n1; omega), h.wn⟩, h.l, h.f, h.w⟩⟩
set_option maxRecDepth 100000 in
set_option maxHeartbeats 8000000 in
theorem specNet_any (n : Nt.Net) (la : Option Addr) (lk : Nat) (fa : Option Addr) (fk : Nat) (wa : Option Addr) (wk : Nat) (w : World) (h : NtAt n la fa wa w) (hs : NtSmall n) :
    Calls Tryz.prog 21 #[ntV n la lk fa fk wa wk] w fun e w' => BoolEnd (Nt.Right n) e ∧ Below w.heap.size w w' := by
  have H := Lib.hid (NtS.new 27 (lk := lk) (fk := fk) (wk := wk) h)
  have HS := Lib.hid hs
  clear h hs
  by_cases h1 : n.nodes < 1
  · go_enter Tryz.func21, Tryz.ntmps21
    go_wp2_with fail
    go_ret
    exact ⟨BoolEnd.ff (fun k => by have := k.n1; omega), H.out.old⟩
  by_cases h2 : 12 < n.nodes
  · go_enter Tryz.func21, Tryz.ntmps21
    go_wp2_with fail
    go_ret
    exact ⟨BoolEnd.ff (fun k => by have := k.n2; omega), H.out.old⟩
  by_cases h3 : 40 < n.ln
  · have h3z : (40 : Int) < (n.ln : Int) := by omega
    go_enter Tryz.func21, Tryz.ntmps21
    go_wp2_with fail
    go_ret
    exact ⟨BoolEnd.ff (fun k => by have := k.ln; omega), H.out.old⟩
  have h3z : ¬ (40 : Int) < (n.ln : Int) := by omega
  by_cases h4 : n.nodes < (n.fn : Int)
  · go_enter Tryz.func21, Tryz.ntmps21
    go_wp2_with fail
    go_ret
    exact ⟨BoolEnd.ff (fun k => by have := Nt.fn_le n k.f (by omega); omega), H.out.old⟩
  by_cases h5 : (n.wn : Int) = n.nodes
  case neg =>
    have h5z : ((n.wn : Int) != n.nodes) = true := by simp [h5]
    go_enter Tryz.func21, Tryz.ntmps21
    go_wp2_with fail
    go_ret
    exact ⟨BoolEnd.ff (fun k => h5 k.wn), H.out.old⟩
  have h5z : ((n.wn : Int) != n.nodes) = false := by simp [h5]
  have HQ := Lib.hid h5
  clear h5
  go_enter Tryz.func21, Tryz.ntmps21
  go_wp2_with fail
  go_loopw [3] (fun iv wr => ∃ (i : Nat), i ≤ n.ln ∧ iv = .int .i64 i ∧ Hid (NtS 27 n la lk fa fk wa wk w wr) ∧ Hid (∀ j, j < i → Nt.linkOk n j)) (fun iv _ => n.ln - (intOf iv).toNat)
  case atStart => exact ⟨0, Nat.zero_le _, rfl, H, fun j hj => absurd hj (Nat.not_lt_zero _)⟩
  case round =>
    obtain ⟨i, hi, rfl, hS, hP⟩ := hrel
    clear H
    obtain ⟨⟨r0, r1, r2, r3⟩, _⟩ := rowN4 hS.out.row
    have zw : w.heap.size < wr.heap.size := hS.out.row.lt
    by_cases hlt : i < n.ln
    · have hltz : (i : Int) < (n.ln : Int) := by omega
      obtain ⟨b, e, c0, c1, c2⟩ := hS.out.at_.l.at3 hlt
      subst e
      have zb : b < wr.heap.size := World.block_lt_of_cell? _ _ c0
      by_cases a1 : n.L (i * 3) < 0
      · go_wp2_with fail
        go_ret
        exact ⟨BoolEnd.ff (fun k => by have := k.l i hlt; unfold Nt.linkOk at this; omega), hS.out.old.alloc hS.out.old.size _⟩
      by_cases a2 : n.nodes ≤ n.L (i * 3)
      · go_wp2_with fail
        go_ret
        exact ⟨BoolEnd.ff (fun k => by have := k.l i hlt; unfold Nt.linkOk at this; omega), hS.out.old.alloc hS.out.old.size _⟩
      by_cases a3 : n.L (i * 3 + 1) < 0
      · go_wp2_with fail
        go_ret
        exact ⟨BoolEnd.ff (fun k => by have := k.l i hlt; unfold Nt.linkOk at this; omega), hS.out.old.alloc hS.out.old.size _⟩
      by_cases a4 : n.nodes ≤ n.L (i * 3 + 1)
      · go_wp2_with fail
        go_ret
        exact ⟨BoolEnd.ff (fun k => by have := k.l i hlt; unfold Nt.linkOk at this; omega), hS.out.old.alloc hS.out.old.size _⟩
      by_cases a5 : n.L (i * 3) = n.L (i * 3 + 1)
      · go_wp2_with fail
        go_ret
        exact ⟨BoolEnd.ff (fun k => by have := k.l i hlt; unfold Nt.linkOk at this; omega), hS.out.old.alloc hS.out.old.size _⟩
      have a5' : (n.L (i * 3) == n.L (i * 3 + 1)) = false := by simp [a5]
      have H4 := Lib.hid a5
      clear a5
      by_cases a6 : n.L (i * 3 + 2) < 1
      · go_wp2_with fail
        go_ret
        exact ⟨BoolEnd.ff (fun k => by have := k.l i hlt; unfold Nt.linkOk at this; omega), hS.out.old.alloc hS.out.old.size _⟩
      by_cases a7 : 1000 < n.L (i * 3 + 2)
      · go_wp2_with fail
        go_ret
        exact ⟨BoolEnd.ff (fun k => by have := k.l i hlt; unfold Nt.linkOk at this; omega), hS.out.old.alloc hS.out.old.size _⟩
      go_wp2_with fail
      go_roundw
      case rel =>
        refine ⟨i + 1, by omega, by go_num, hS.out.alloc _, fun j hj => ?_⟩
        by_cases ej : j = i
        · subst ej
          have k4 := H4.out
          exact ⟨⟨by omega, by omega⟩, ⟨by omega, by omega⟩, k4, by omega, by omega⟩
        · exact hP.out j (by omega)
      case measure => simp [intOf]; omega
    · obtain rfl : i = n.ln := by omega
      have HL := Lib.hid hP.out
      clear hP
      go_wp2_with fail
      go_loopw [5] (fun iv wr => ∃ (i : Nat), i ≤ n.fn ∧ iv = .int .i64 i ∧ Hid (NtS 27 n la lk fa fk wa wk w wr) ∧ Hid (∀ j, j < i → Nt.fixOk n j)) (fun iv _ => n.fn - (intOf iv).toNat)
      case atStart => exact ⟨0, Nat.zero_le _, rfl, hS, fun j hj => absurd hj (Nat.not_lt_zero _)⟩
      case round =>
        obtain ⟨i, hi, rfl, hS2, hP⟩ := hrel
        clear hS r0 r1 r2 r3 zw
        obtain ⟨⟨r0, r1, r2, r3⟩, _⟩ := rowN4 hS2.out.row
        have zw : w.heap.size < wr.heap.size := hS2.out.row.lt
        by_cases hlt : i < n.fn
        · have hltz : (i : Int) < (n.fn : Int) := by omega
          obtain ⟨b, e, c0, c1⟩ := hS2.out.at_.f.at2 hlt
          have HPR : Hid (0 < i → ∃ j, i = j + 1 ∧ wr.cell? ⟨b, j * 2, none⟩ = some (.int .i64 (n.F (j * 2)))) := fun h0 => by
            obtain ⟨b', e', c0', _⟩ := hS2.out.at_.f.at2 (i := i - 1) (by omega)
            rw [e] at e'
            cases e'
            exact ⟨i - 1, by omega, c0'⟩
          subst e
          have zb : b < wr.heap.size := World.block_lt_of_cell? _ _ c0
          by_cases a1 : n.F (i * 2) < 0
          · have a1d : decide (n.F (i * 2) < 0) = true := by simp [a1]
            go_wp2_with fail
            go_quiet (fail)
            go_wp2_with fail
            go_ret
            exact ⟨BoolEnd.ff (fun k => by have := k.f i hlt; unfold Nt.fixOk at this; omega), ndrewN (hS2.out.old.alloc hS2.out.old.size _) _⟩
          have a1d : decide (n.F (i * 2) < 0) = false := by simp [a1]
          by_cases a2 : n.nodes ≤ n.F (i * 2)
          · have a2d : decide (n.nodes ≤ n.F (i * 2)) = true := by simp [a2]
            go_wp2_with fail
            go_quiet (fail)
            go_wp2_with fail
            go_ret
            exact ⟨BoolEnd.ff (fun k => by have := k.f i hlt; unfold Nt.fixOk at this; omega), ndrewN (hS2.out.old.alloc hS2.out.old.size _) _⟩
          have a2d : decide (n.nodes ≤ n.F (i * 2)) = false := by simp [a2]
          by_cases a3 : n.F (i * 2 + 1) < -100000
          · have a3d : decide (n.F (i * 2 + 1) < -100000) = true := by simp [a3]
            go_wp2_with fail
            go_quiet (fail)
            go_wp2_with fail
            go_ret
            exact ⟨BoolEnd.ff (fun k => by have := k.f i hlt; unfold Nt.fixOk at this; omega), ndrewN (hS2.out.old.alloc hS2.out.old.size _) _⟩
          have a3d : decide (n.F (i * 2 + 1) < -100000) = false := by simp [a3]
          by_cases a4 : 100000 < n.F (i * 2 + 1)
          · have a4d : decide (100000 < n.F (i * 2 + 1)) = true := by simp [a4]
            go_wp2_with fail
            go_quiet (fail)
            go_wp2_with fail
            go_ret
            exact ⟨BoolEnd.ff (fun k => by have := k.f i hlt; unfold Nt.fixOk at this; omega), ndrewN (hS2.out.old.alloc hS2.out.old.size _) _⟩
          have a4d : decide (100000 < n.F (i * 2 + 1)) = false := by simp [a4]
          by_cases a5 : i = 0
          · subst a5
            go_wp2_with fail
            go_quiet (fail)
            go_wp2_with fail
            go_roundw
            case rel =>
              refine ⟨1, by omega, rfl, (hS2.out.alloc _).drewN _, fun j hj => ?_⟩
              obtain rfl : j = 0 := by omega
              exact ⟨⟨by omega, by omega⟩, ⟨by omega, by omega⟩, fun h => absurd h (by omega)⟩
            case measure => simp [intOf]; omega
          · obtain ⟨j, ej, cj⟩ := HPR.out (by omega)
            subst ej
            have a5d : decide ((0 : Int) < ((j + 1 : Nat) : Int)) = true := by simp
            by_cases a6 : n.F ((j + 1) * 2) ≤ n.F (j * 2)
            · have a6d : decide (n.F ((j + 1) * 2) ≤ n.F (j * 2)) = true := by simp [a6]
              go_wp2_with fail
              go_quiet (fail)
              go_wp2_with fail
              go_ret
              exact ⟨BoolEnd.ff (fun k => by have := (k.f (j + 1) hlt).2.2 (by omega); simp only [Nat.add_sub_cancel] at this; omega), ndrewN (hS2.out.old.alloc hS2.out.old.size _) _⟩
            · have a6d : decide (n.F ((j + 1) * 2) ≤ n.F (j * 2)) = false := by simp; omega
              go_wp2_with fail
              go_quiet (fail)
              go_wp2_with fail
              go_roundw
              case rel =>
                refine ⟨j + 1 + 1, by omega, by go_num, (hS2.out.alloc _).drewN _, fun t ht => ?_⟩
                by_cases et : t = j + 1
                · subst et
                  exact ⟨⟨by omega, by omega⟩, ⟨by omega, by omega⟩, fun _ => by simp only [Nat.add_sub_cancel]; omega⟩
                · exact hP.out t (by omega)
              case measure => simp [intOf]; omega
        · obtain rfl : i = n.fn := by omega
          go_wp2_with fail
          refine (all_any wa n.wn wk n.W _ _ _ hS2.out.at_.w HS.out.2.2).mono ?_
          rintro e w3 ⟨⟨b3, rfl, hb3⟩, hb⟩
          have S3 := Lib.hid (hS2.out.old.trans (hb.mono hS2.out.old.size))
          have K3 := Lib.hid hb3
          clear hb hb3 hS2 r0 r1 r2 r3
          cases b3 with
          | false =>
            go_wp2_with fail
            go_ret
            exact ⟨BoolEnd.ff (fun k => by have := K3.out.2 k.w; cases this), S3.out⟩
          | true =>
            go_wp2_with fail
            go_ret
            exact ⟨BoolEnd.tt (nt0_right.1 ⟨⟨by omega, by omega, by omega, by omega, HQ.out⟩, HL.out, hP.out, K3.out.1 (by trivial)⟩), S3.out⟩
end Go.Proofs.YtkaokfmaecdkiaaGreatDoor
