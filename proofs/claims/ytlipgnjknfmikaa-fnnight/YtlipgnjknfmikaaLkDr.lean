/-
  The draw of reads of a flow.
-/
import Derived.Test.YtlipgnjknfmikaaLkOwn
import Derived.Test.YtlipgnjknfmikaaSource
import Derived.Deep.DeepCutAuto
namespace Go.Proofs.Ytlipgnjknfmikaa
open Go.RowKit Go.Deep

theorem lsrc_size {sb : Nat} {W : World} (h : Src sb W) : ∃ z : Int, W.cell? ⟨sb, 3, none⟩ = some (.int .i64 z) ∧ 0 ≤ z ∧ z ≤ 12 := by
  obtain ⟨a, len, cap, at_, mix, size, ⟨c0, c1, c2, c3, _⟩, h1, h2, h3, h4, h5, h6⟩ := h
  exact ⟨size, c3, h4, h5⟩
theorem Drew.to {sb : Nat} {a b c : World} (h : Drew sb a b) (k : Drew sb b c) : Drew sb a c := ⟨k.1, h.2.trans k.2⟩
theorem FL.drewN {w : World} {sb : Nat} {v : Value} {zs : List Nat} {W : World} (h : FL w sb v zs W) (n : Nat) : FL w sb v zs (W.drewN n) :=
  h.draw ⟨h.2.1.1.below (below_drewN (Below.refl _ _) n), (Chg.refl _ _).drewN n⟩

set_option maxRecDepth 100000 in
set_option maxHeartbeats 8000000 in
theorem readsL_any (sb : Nat) (w0 : World) (h : Src sb w0) :
    Calls Try.prog 28 #[.pointer (some ⟨sb, 0, none⟩)] w0 fun e w' => ∃ v, e = .returned v ∧ ∃ (w : World) (zs : List Nat), zs.length ≤ 401 ∧ FL w sb v zs w' ∧ Drew sb w0 w := by
  have H := Lib.hid h
  obtain ⟨z, cz, z0, z1⟩ := lsrc_size h
  have hlt := h.lt
  clear h
  obtain ⟨i0, hi, hz0, hz1, hz2⟩ := info_parts info_float
  go_enter Try.func28, Try.ntmps28
  go_wp2_with fail
  refine (n_any sb _ _ H.out (by omega)).mono ?_
  rintro e w1 ⟨⟨u, rfl, u0, u1, _⟩, hD⟩
  have u2 : u < 8 + 2 * z := u1 (by omega)
  have HD := Lib.hid hD
  clear hD u1 cz
  go_wp2_with fail
  refine (one_any sb 60 _ HD.out.1 (by omega)).mono ?_
  rintro e w2 ⟨⟨b, rfl⟩, hD⟩
  replace HD := Lib.hid (HD.out.to hD)
  clear hD
  go_upto_if 15 with fail
  go_cut [3] from 16 to 18 (fun nv wx => ∃ N : Int, nv = .int .i64 N ∧ 0 ≤ N ∧ N ≤ 401 ∧ Hid (Drew sb w0 wx))
  case first =>
    cases b
    · go_wp2_with fail
      go_meet
      case rel => exact ⟨u, rfl, u0, by omega, HD⟩
    · go_wp2_with fail
      refine (n_any sb 3 _ HD.out.1 (by omega)).mono ?_
      rintro e w3 ⟨⟨y, rfl, y0, y1, _⟩, hD⟩
      have y2 : y < 3 := y1 (by omega)
      replace HD := Lib.hid (HD.out.to hD)
      clear hD y1
      go_wp2_with fail
      go_meet
      case rel => exact ⟨399 + y, rfl, by omega, by omega, HD⟩
  case rest =>
    obtain ⟨N, rfl, n0, n1, hN⟩ := hcut
    clear HD u0 u2 z0 z1
    obtain ⟨w, hw⟩ : ∃ w', w' = wc := ⟨_, rfl⟩
    rw [← hw] at hN ⊢
    clear hw
    go_wp2_with fail
    go_loopw [3, 4, 5] (fun nv ov _ wr => ∃ (m : Int) (zs : List Nat), nv = .int .i64 m ∧ 0 ≤ m ∧ m ≤ 1000 ∧ Hid (m + zs.length ≤ 401) ∧ Hid (FL w sb ov zs wr)) (fun nv _ _ _ => (intOf nv).toNat)
    case atStart => exact ⟨N, [], rfl, n0, by omega, by show _ ≤ _; simp; omega, fl_start hN.out.1⟩
    case round =>
      obtain ⟨m, zs, rfl, m0, m1, hm, HF⟩ := hrel
      by_cases hlt2 : 0 < m
      · go_wp2_with fail
        refine (n_any sb 400 _ HF.out.2.1.1 (by omega)).mono ?_
        rintro e w3 ⟨⟨y, rfl, y0, y1, _⟩, hD⟩
        have y2 : y < 400 := y1 (by omega)
        replace HF := Lib.hid (HF.out.draw hD)
        clear hD y1
        obtain ⟨gg, kk, ha⟩ := arith_any .quo (by simp) (floatOfInt .f64 y) 4625196817309499392
        go_wp2_with fail
        replace HF := Lib.hid (HF.out.drewN kk)
        generalize gg w3 = xx
        refine (one_any sb 12 _ HF.out.2.1.1 (by omega)).mono ?_
        rintro e w4 ⟨⟨b1, rfl⟩, hD⟩
        replace HF := Lib.hid (HF.out.draw hD)
        clear hD ha
        go_upto_if 29 with fail
        go_cut [5] from 30 to 31 (fun xv wx => ∃ x : Nat, xv = .float .f64 x ∧ Hid (FL w sb _ zs wx))
        case first =>
          cases b1
          · go_wp2_with fail
            go_meet
            case rel => exact ⟨xx, rfl, HF⟩
          · go_wp2_with fail
            refine (float_any sb _ HF.out.2.1.1).mono ?_
            rintro e w5 ⟨⟨x2, rfl⟩, hD⟩
            replace HF := Lib.hid (HF.out.draw hD)
            clear hD
            go_wp2_with fail
            go_meet
            case rel => exact ⟨x2, rfl, HF⟩
        case rest =>
          clear HF
          obtain ⟨x3, rfl, HF⟩ := hcut
          obtain ⟨w5, hw5⟩ : ∃ w', w' = wc := ⟨_, rfl⟩
          rw [← hw5] at HF ⊢
          clear hw5
          go_wp2_with fail
          refine (one_any sb 20 _ HF.out.2.1.1 (by omega)).mono ?_
          rintro e w6 ⟨⟨b2, rfl⟩, hD⟩
          replace HF := Lib.hid (HF.out.draw hD)
          clear hD
          go_upto_if 33 with fail
          go_cut [5] from 34 to 35 (fun xv wx => ∃ x : Nat, xv = .float .f64 x ∧ Hid (FL w sb _ zs wx))
          case first =>
            cases b2
            · go_wp2_with fail
              go_meet
              case rel => exact ⟨x3, rfl, HF⟩
            · obtain ⟨g2, k2, ha⟩ := arith_any .add (by simp) x3 4641240890982006784
              go_wp2_with fail
              go_meet
              case rel => exact ⟨g2 w6, rfl, HF.out.drewN k2⟩
          case rest =>
            clear HF
            obtain ⟨xx, rfl, HF⟩ := hcut
            obtain ⟨WW, hWW⟩ : ∃ w', w' = wc := ⟨_, rfl⟩
            rw [← hWW] at HF ⊢
            clear hWW
            go_wp2_with (at_builtin; refine wpList_append_own _ rfl _ _ 23 rfl w.heap.size 27 i0 (.float .f64 0) 1 8 Try.underlying23 hi hz0 hz1 hz2 rfl (by decide) _ _ _ rfl (HF.out.1.1.alloc _) ⟨WW.heap.size, 0, none⟩ 1 1 [.float .f64 xx] rfl rfl ?c1T ?c2T ?c3T ?c4T ?c5T ?_)
            case c1T =>
              intro j u hj
              match j, hj with
              | 0, hj => simp at hj; subst hj; simp [Addr.add]
            case c2T => intro u hu; simp at hu; subst hu; rfl
            case c3T => have := hm.out; unfold maxLen; omega
            case c4T => have := hm.out; omega
            case c5T => have := HF.out.2.1.2.size; simp; omega
            · intro v' w9 hown hgrow hnil
              have HF2 : Hid (FL w sb v' (zs ++ [xx]) w9) := HF.out.push hgrow hown hnil
              clear hown hgrow hnil HF
              go_wp2_with fail
              go_roundw
              case rel => exact ⟨m - 1, zs ++ [xx], by go_num, by omega, by omega, by show _ ≤ _; have := hm.out; simp; omega, HF2⟩
              case measure => simp [intOf]; omega
      · obtain rfl : m = 0 := by omega
        go_wp2_with fail
        go_ret
        exact ⟨_, rfl, w, zs, by have := hm.out; omega, HF.out, hN.out⟩
end Go.Proofs.Ytlipgnjknfmikaa
