/-
  The contract of the model's draw of a number below a bound.
-/
import Derived.Test.YtogfjomfhenhfaaGreatDoorDraw
namespace Go.Proofs.YtogfjomfhenhfaaGreatDoor
open Go.RowKit

/-- What is drawn lies below the bound. -/
theorem draw_range (x most : Int) (hm : 1 < most) (hm2 : most ≤ 9223372036854775807) : 0 ≤ wrap64 ((IntKind.u64.wrap x).tmod most) ∧ wrap64 ((IntKind.u64.wrap x).tmod most) < most := by
  have hx : 0 ≤ IntKind.u64.wrap x := by
    have : IntKind.u64.wrap x = x % 18446744073709551616 := by simp [IntKind.wrap, IntKind.signed, IntKind.bits]
    rw [this]; exact Int.emod_nonneg _ (by omega)
  generalize IntKind.u64.wrap x = y at *
  rw [Int.tmod_eq_emod_of_nonneg hx]
  have h1 := Int.emod_nonneg y (show most ≠ 0 by omega)
  have h2 := Int.emod_lt_of_pos y (show 0 < most by omega)
  generalize y % most = r at *
  unfold wrap64
  omega

set_option maxRecDepth 100000 in
set_option maxHeartbeats 4000000 in
theorem n_no (sb : Nat) (sl : Value) (at_ mix size most : Int) (w : World) (_h : SrcC sb sl at_ mix size w) (hm : most ≤ 1) :
    Calls Tryz.prog 38 #[.pointer (some ⟨sb, 0, none⟩), .int .i64 most] w fun e w' => e = .returned (.int .i64 0) ∧ w' = w := by
  go_enter Tryz.func38, Tryz.ntmps38
  go_wp2_with fail
  go_ret
  exact ⟨rfl, rfl⟩

set_option maxRecDepth 100000 in
set_option maxHeartbeats 4000000 in
theorem n_byte (sb cb co len cap : Nat) (at_ mix size most zb : Int) (w : World) (hS : SrcC sb (.slice (some ⟨cb, co, none⟩) len cap) at_ mix size w)
    (ha : 0 ≤ at_) (hl : len ≤ 4194304) (hat : at_ < (len : Int)) (hm : 1 < most) (hm2 : most ≤ 9223372036854775807)
    (hz : w.cell? ⟨cb, co + at_.toNat, none⟩ = some (.int .u8 zb)) (z0 : 0 ≤ zb) (z1 : zb ≤ 255) :
    Calls Tryz.prog 38 #[.pointer (some ⟨sb, 0, none⟩), .int .i64 most] w fun e w' => ∃ v m, e = .returned (.int .i64 v) ∧ 0 ≤ v ∧ v < most ∧ SrcC sb (.slice (some ⟨cb, co, none⟩) len cap) (at_ + 1) m size w' ∧ Chg sb w w' := by
  have hm' : ¬ most ≤ 1 := by omega
  have HS : Hid (SrcC sb (.slice (some ⟨cb, co, none⟩) len cap) at_ mix size w) := hS
  obtain ⟨c0, c1, c2, c3, f0, f1, f2, f3⟩ := hS
  go_enter Tryz.func38, Tryz.ntmps38
  go_wp2_with fail
  go_quiet (fail)
  go_wp2_with fail
  go_quiet (fail)
  go_wp2_with fail
  go_cut [] (fun wx => Hid (∃ m, SrcC sb (.slice (some ⟨cb, co, none⟩) len cap) (at_ + 1) m size wx ∧ Chg sb w wx))
  case first =>
    go_region
    go_wp2_with fail
    go_meet
    exact ⟨_, ((HS.out.drewN _).set1 _).set2 _, (((Chg.refl _ _).drewN _).set 1 _).set 2 _⟩
  case rest =>
    obtain ⟨m1, hS1, hC1⟩ := hcut.out
    clear hcut
    have HS1 : Hid (SrcC sb (.slice (some ⟨cb, co, none⟩) len cap) (at_ + 1) m1 size wc) := hS1
    have HC1 : Hid (Chg sb w wc) := hC1
    clear c0 c1 c2 c3 f0 f1 f2 f3 hC1
    obtain ⟨c0, c1, c2, c3, f0, f1, f2, f3⟩ := hS1
    go_wp2_with fail
    go_cut [] (fun wx => Hid (∃ m, SrcC sb (.slice (some ⟨cb, co, none⟩) len cap) (at_ + 1) m size wx ∧ Chg sb w wx))
    case first =>
      go_region
      go_wp2_with fail
      go_meet
      exact ⟨_, HS1.out.set2 _, HC1.out.set 2 _⟩
    case rest =>
      obtain ⟨m2, hS2, hC2⟩ := hcut.out
      clear hcut
      rename_i wd _
      clear c0 c1 c2 c3 f0 f1 f2 f3
      have HS2 : Hid (SrcC sb (.slice (some ⟨cb, co, none⟩) len cap) (at_ + 1) m2 size _) := hS2
      have HC2 : Hid (Chg sb w _) := hC2
      clear hC2
      obtain ⟨c0, c1, c2, c3, f0, f1, f2, f3⟩ := hS2
      go_wp2_with fail
      go_cut [] (fun wx => Hid (∃ m, SrcC sb (.slice (some ⟨cb, co, none⟩) len cap) (at_ + 1) m size wx ∧ Chg sb w wx))
      case first =>
        go_region
        go_wp2_with fail
        go_meet
        exact ⟨_, HS2.out.set2 _, HC2.out.set 2 _⟩
      case rest =>
        obtain ⟨m3, hS3, hC3⟩ := hcut.out
        clear hcut
        clear c0 c1 c2 c3 f0 f1 f2 f3
        have HS3 : Hid (SrcC sb (.slice (some ⟨cb, co, none⟩) len cap) (at_ + 1) m3 size _) := hS3
        have HC3 : Hid (Chg sb w _) := hC3
        clear hC3
        obtain ⟨c0, c1, c2, c3, f0, f1, f2, f3⟩ := hS3
        go_wp2_with fail
        go_ret
        refine ⟨_, m3, rfl, ?_, ?_, HS3.out, HC3.out⟩
        · exact (draw_range _ _ hm hm2).1
        · exact (draw_range _ _ hm hm2).2
set_option maxRecDepth 100000 in
set_option maxHeartbeats 4000000 in
theorem n_none (sb len cap : Nat) (a : Option Addr) (at_ mix size most : Int) (w : World) (hS : SrcC sb (.slice a len cap) at_ mix size w)
    (hat : ¬ at_ < (len : Int)) (hm : 1 < most) (hm2 : most ≤ 9223372036854775807) :
    Calls Tryz.prog 38 #[.pointer (some ⟨sb, 0, none⟩), .int .i64 most] w fun e w' => ∃ v m, e = .returned (.int .i64 v) ∧ 0 ≤ v ∧ v < most ∧ SrcC sb (.slice a len cap) at_ m size w' ∧ Chg sb w w' := by
  have hm' : ¬ most ≤ 1 := by omega
  have HS : Hid (SrcC sb (.slice a len cap) at_ mix size w) := hS
  obtain ⟨c0, c1, c2, c3, f0, f1, f2, f3⟩ := hS
  go_enter Tryz.func38, Tryz.ntmps38
  go_wp2_with fail
  go_quiet (fail)
  go_wp2_with fail
  go_cut [] (fun wx => Hid (∃ m, SrcC sb (.slice a len cap) at_ m size wx ∧ Chg sb w wx))
  case first =>
    go_region
    go_wp2_with fail
    go_meet
    exact ⟨_, (HS.out.drewN _).set2 _, ((Chg.refl _ _).drewN _).set 2 _⟩
  case rest =>
    obtain ⟨m1, hS1, hC1⟩ := hcut.out
    clear hcut
    have HS1 : Hid (SrcC sb (.slice a len cap) at_ m1 size wc) := hS1
    have HC1 : Hid (Chg sb w wc) := hC1
    clear c0 c1 c2 c3 f0 f1 f2 f3 hC1
    obtain ⟨c0, c1, c2, c3, f0, f1, f2, f3⟩ := hS1
    go_wp2_with fail
    go_cut [] (fun wx => Hid (∃ m, SrcC sb (.slice a len cap) at_ m size wx ∧ Chg sb w wx))
    case first =>
      go_region
      go_wp2_with fail
      go_meet
      exact ⟨_, HS1.out.set2 _, HC1.out.set 2 _⟩
    case rest =>
      obtain ⟨m2, hS2, hC2⟩ := hcut.out
      clear hcut
      rename_i wd _
      clear c0 c1 c2 c3 f0 f1 f2 f3
      have HS2 : Hid (SrcC sb (.slice a len cap) at_ m2 size _) := hS2
      have HC2 : Hid (Chg sb w _) := hC2
      clear hC2
      obtain ⟨c0, c1, c2, c3, f0, f1, f2, f3⟩ := hS2
      go_wp2_with fail
      go_cut [] (fun wx => Hid (∃ m, SrcC sb (.slice a len cap) at_ m size wx ∧ Chg sb w wx))
      case first =>
        go_region
        go_wp2_with fail
        go_meet
        exact ⟨_, HS2.out.set2 _, HC2.out.set 2 _⟩
      case rest =>
        obtain ⟨m3, hS3, hC3⟩ := hcut.out
        clear hcut
        clear c0 c1 c2 c3 f0 f1 f2 f3
        have HS3 : Hid (SrcC sb (.slice a len cap) at_ m3 size _) := hS3
        have HC3 : Hid (Chg sb w _) := hC3
        clear hC3
        obtain ⟨c0, c1, c2, c3, f0, f1, f2, f3⟩ := hS3
        go_wp2_with fail
        go_ret
        refine ⟨_, m3, rfl, ?_, ?_, HS3.out, HC3.out⟩
        · exact (draw_range _ _ hm hm2).1
        · exact (draw_range _ _ hm hm2).2
end Go.Proofs.YtogfjomfhenhfaaGreatDoor
