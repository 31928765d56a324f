/-
  The draw of an account's entries.
-/
import Derived.Test.YtnbnfifgajfomaaDoorBiDr8
import Derived.Deep.DeepCutAuto
import Derived.BigQuiet
namespace Go.Proofs.YtnbnfifgajfomaaDoor
open Go Go.RowKit Go.Deep

theorem own_low2 {W : World} {B B' : Nat} {T : TypeId} {s : Nat} {v : Value} {n : Nat} {xs : List Value} (h : W.ownsRow B T s v n xs) (hB : B' ≤ B) : W.ownsRow B' T s v n xs := by
  refine ⟨h.1, ?_⟩
  rcases h.2 with h2 | ⟨g, cap, cur, e1, e2, e3⟩
  · exact Or.inl h2
  · exact Or.inr ⟨g, cap, cur, e1, by omega, e3⟩
theorem bsrc_size {sb : Nat} {w : World} (h : Src sb w) : ∃ z : Int, w.cell? ⟨sb, 3, none⟩ = some (.int .i64 z) ∧ 0 ≤ z ∧ z ≤ 12 := by
  obtain ⟨a, len, cap, at_, mix, size, hC, _, _, _, h0, h1, _⟩ := h
  exact ⟨size, hC.2.2.2.1, h0, h1⟩
set_option maxRecDepth 100000 in
set_option maxHeartbeats 16000000 in
theorem drawAcc_any (a : Option Addr) (len cap : Nat) (w : World) (h : Bytes a len w) (hl : len ≤ 4194304) :
    Calls Tryd.prog 13 #[.slice a len cap] w fun e w' => (∃ (g n c : Nat) (zs : List Int), e = .returned (.slice (some ⟨g, 0, none⟩) n c) ∧ n ≤ 101 ∧ zs.length = n * 2 ∧ IsBlk 41 g (n * 2) (qf zs) w') ∧ Below w.heap.size w w' := by
  obtain ⟨i1, hi1, hy0, hy1, hy2⟩ := info_parts ninfo_Entry
  have H := Lib.hid h
  clear h
  go_enter Tryd.func13, Tryd.ntmps13
  go_wp2_with fail
  refine (source_any a len cap _ H.out hl).mono ?_
  rintro e w1 ⟨rfl, hsrc, hb⟩
  obtain ⟨W, hW⟩ : ∃ W, W = w1.alloc (.cells #[] 41) := ⟨_, rfl⟩
  have hw1 : w.heap.size + 1 ≤ w1.heap.size := hsrc.lt
  have hbW : Below w1.heap.size w1 W := by rw [hW]; exact nbel_alloc _ _
  have HF : Hid (DaS (.slice (some ⟨w1.heap.size, 0, none⟩) 0 0) 0 [] w W) := by
    refine ⟨hsrc.below hbW, hb.trans (hbW.mono hb.size), ?_⟩
    rw [hW]
    exact own_low2 (World.ownsRow_made w1 #[] 0 (Nat.le_refl _) (Nat.zero_le _) rfl) hw1
  obtain ⟨z, cz, z0, z1⟩ := bsrc_size HF.out.src
  rw [hW] at cz
  have HW := Lib.hid hW
  obtain ⟨s0, hs0⟩ : ∃ s, s = w1.heap.size := ⟨_, rfl⟩
  rw [← hs0] at HF
  have HS0 := Lib.hid hs0
  clear hsrc hb hbW hW H hw1 hs0
  go_wp2_with fail
  rw [← HW.out, ← HS0.out]
  clear HW HS0 cz
  refine (n_any w.heap.size _ _ HF.out.src (by omega)).mono ?_
  rintro e w2 ⟨⟨u, rfl, u0, u1, _⟩, hD⟩
  have u2 : u < 5 + z := u1 (by omega)
  replace HF := Lib.hid (HF.out.drew hD)
  clear hD u1
  go_wp2_with fail
  refine (one_any w.heap.size 60 _ HF.out.src (by omega)).mono ?_
  rintro e w3 ⟨⟨b, rfl⟩, hD⟩
  replace HF := Lib.hid (HF.out.drew hD)
  clear hD
  go_upto_if 18 with fail
  go_cut [5] from 19 to 21 (fun nv wx => ∃ N : Nat, nv = .int .i64 N ∧ N ≤ 101 ∧ Hid (DaS (.slice (some ⟨s0, 0, none⟩) 0 0) 0 [] w wx))
  case first =>
    cases b
    · go_wp2_with fail
      go_meet
      case rel => exact ⟨u.toNat, by rw [Int.toNat_of_nonneg u0], by omega, HF⟩
    · go_wp2_with fail
      refine (n_any w.heap.size 3 _ HF.out.src (by omega)).mono ?_
      rintro e w4 ⟨⟨y, rfl, y0, y1, _⟩, hD⟩
      have y2 : y < 3 := y1 (by omega)
      replace HF := Lib.hid (HF.out.drew hD)
      clear hD y1
      go_wp2_with fail
      go_meet
      case rel => exact ⟨(99 + y).toNat, by rw [Int.toNat_of_nonneg (by omega)], by omega, HF⟩
  case rest =>
    clear HF u0 u2 z0 z1
    obtain ⟨N, rfl, hN, HF⟩ := hcut
    obtain ⟨W1, hW1⟩ : ∃ w', w' = wc := ⟨_, rfl⟩
    rw [← hW1] at HF ⊢
    clear hW1
    go_wp2_with fail
    go_loopw [4, 5, 6] (fun ov nv _ wr => ∃ (k n : Nat) (zs : List Int) (gl cl : Nat), nv = .int .i64 k ∧ ov = .slice (some ⟨gl, 0, none⟩) n cl ∧ k + n ≤ 101 ∧ Hid (DaS (.slice (some ⟨gl, 0, none⟩) n cl) n zs w wr)) (fun _ nv _ _ => (intOf nv).toNat)
    case atStart => exact ⟨N, 0, [], _, _, rfl, rfl, by omega, HF⟩
    case round =>
      clear HF
      obtain ⟨kk, n, zs, gl, cl, rfl, rfl, hk, HF⟩ := hrel
      by_cases hlt : 0 < kk
      · have hltz : (0 : Int) < (kk : Int) := by omega
        go_wp2_with fail
        apply bireg8 (HD := HF) (hP := fun _ _ o _ _ h => by cases o <;> exact h)
        intro y26 y27 y28 y29 y30 y31 y32 y33 y34 xb k m WZ HE
        clear HF
        obtain ⟨⟨o0, o1⟩, f0, f1⟩ := rowN2 HE.out.row
        have l0 := HE.out.row.lt
        go_upto_if 37 with fail
        go_cut [] from 38 to 53 (fun wx => ∃ k m : Int, Hid (DeS (.slice (some ⟨gl, 0, none⟩) n cl) n zs xb k m w wx))
        case first =>
          clear o0 o1 f0 f1 l0
          by_cases hk3 : k = 3
          case neg =>
            have hk4 : (k == 3) = false := by simpa using hk3
            go_wp2_with fail
            go_meet
            case rel => exact ⟨k, m, HE⟩
          case pos =>
            subst hk3
            go_wp2_with fail
            refine (n_any w.heap.size 12 _ HE.out.d.src (by omega)).mono ?_
            rintro e w5 ⟨⟨y, rfl, y0, y1, _⟩, hD⟩
            have y2 : y < 12 := y1 (by omega)
            replace HE := Lib.hid (HE.out.drew hD)
            clear hD y1
            obtain ⟨⟨o0, o1⟩, f0, f1⟩ := rowN2 HE.out.row
            have l0 := HE.out.row.lt
            go_wp2_with fail
            replace HE := Lib.hid (HE.out.money (1 + y))
            clear o0 o1 f0 f1 l0
            generalize w5.setCell ⟨xb, 1, none⟩ (.int .i64 (1 + y)) = w6 at HE ⊢
            apply bireg11 (HE := HE) (hn9 := by omega) (hP := fun _ _ o _ _ h => by cases o <;> exact h)
            intro y42 y43 y44 y45 y46 y47 y48 y49 y50 y51 bb w7 HE7
            clear HE
            cases bb
            · go_wp2_with fail
              go_meet
              case rel => exact ⟨_, _, HE7⟩
            · obtain ⟨⟨o0, o1⟩, f0, f1⟩ := rowN2 HE7.out.row
              have l0 := HE7.out.row.lt
              go_wp2_with fail
              go_meet
              case rel => exact ⟨_, _, Lib.hid (HE7.out.kind 2)⟩
        case rest =>
          clear HE o0 o1 f0 f1 l0
          obtain ⟨k1, m1, HE⟩ := hcut
          obtain ⟨V1, hV1⟩ : ∃ w', w' = wc := ⟨_, rfl⟩
          rw [← hV1] at HE ⊢
          clear hV1
          go_wp2_with fail
          refine (one_any w.heap.size 80 _ HE.out.d.src (by omega)).mono ?_
          rintro e w5 ⟨⟨b1, rfl⟩, hD⟩
          replace HE := Lib.hid (HE.out.drew hD)
          clear hD
          go_upto_if 55 with fail
          go_cut [] from 56 to 61 (fun wx => ∃ k m : Int, Hid (DeS (.slice (some ⟨gl, 0, none⟩) n cl) n zs xb k m w wx))
          case first =>
            cases b1
            · go_wp2_with fail
              go_meet
              case rel => exact ⟨_, _, HE⟩
            · obtain ⟨W6, hW6⟩ : ∃ W, W = w5.alloc (.cells #[.int .i64 0, .int .i64 1000000000, .int .i64 1000000001] 2) := ⟨_, rfl⟩
              have hb6 : Below w5.heap.size w5 W6 := by rw [hW6]; exact nbel_alloc _ _
              obtain ⟨gq, hgq⟩ : ∃ g, g = w5.heap.size := ⟨_, rfl⟩
              have HQ : Hid (W6.rowIs gq 2 3 (rowN [.int .i64 0, .int .i64 1000000000, .int .i64 1000000001])) := by show World.rowIs _ _ _ _ _; rw [hW6, hgq]; exact rowN_alloc _ _ _
              have HQL : Hid (w.heap.size < gq) := by show _ < _; rw [hgq]; exact HE.out.d.src.lt
              have HQX : Hid (gq ≠ xb) := fun e => by have := HE.out.row.lt; omega
              replace HE := Lib.hid (HE.out.below hb6)
              have HW6 := Lib.hid hW6
              have HGQ := Lib.hid hgq
              clear hb6 hW6 hgq
              go_wp2_with fail
              rw [← HW6.out, ← HGQ.out]
              clear HW6 HGQ
              refine (n_any w.heap.size 3 _ HE.out.d.src (by omega)).mono ?_
              rintro e w7 ⟨⟨y, rfl, y0, y1, _⟩, hD⟩
              have y2 : y < 3 := y1 (by omega)
              replace HE := Lib.hid (HE.out.drew hD)
              replace HQ := Lib.hid (HQ.out.of_block (hD.2.2.2.2.2 _ HQ.out.lt (by have := HQL.out; omega)))
              clear hD y1
              have y3 : y = 0 ∨ y = 1 ∨ y = 2 := by omega
              clear y0 y2
              obtain ⟨⟨q0, q1, q2⟩, _⟩ := rowN3 HQ.out
              obtain ⟨⟨o0, o1⟩, f0, f1⟩ := rowN2 HE.out.row
              have l0 := HE.out.row.lt
              rcases y3 with rfl | rfl | rfl
              · go_wp2_with fail
                go_meet
                case rel => exact ⟨_, _, Lib.hid (HE.out.money 0)⟩
              · go_wp2_with fail
                go_meet
                case rel => exact ⟨_, _, Lib.hid (HE.out.money 1000000000)⟩
              · go_wp2_with fail
                go_meet
                case rel => exact ⟨_, _, Lib.hid (HE.out.money 1000000001)⟩
          case rest =>
            clear HE
            obtain ⟨k2, m2, HE⟩ := hcut
            obtain ⟨V2, hV2⟩ : ∃ w', w' = wc := ⟨_, rfl⟩
            rw [← hV2] at HE ⊢
            clear hV2
            go_wp2_with fail
            refine (one_any w.heap.size 100 _ HE.out.d.src (by omega)).mono ?_
            rintro e w6 ⟨⟨b2, rfl⟩, hD⟩
            replace HE := Lib.hid (HE.out.drew hD)
            clear hD
            go_upto_if 63 with fail
            go_cut [] from 64 to 67 (fun wx => ∃ k m : Int, Hid (DeS (.slice (some ⟨gl, 0, none⟩) n cl) n zs xb k m w wx))
            case first =>
              cases b2
              · go_wp2_with fail
                go_meet
                case rel => exact ⟨_, _, HE⟩
              · go_wp2_with fail
                refine (n_any w.heap.size 2 _ HE.out.d.src (by omega)).mono ?_
                rintro e w7 ⟨⟨y, rfl, y0, y1, _⟩, hD⟩
                have y2 : y < 2 := y1 (by omega)
                replace HE := Lib.hid (HE.out.drew hD)
                clear hD y1
                obtain ⟨⟨o0, o1⟩, f0, f1⟩ := rowN2 HE.out.row
                have l0 := HE.out.row.lt
                go_wp2_with fail
                go_meet
                case rel => exact ⟨_, _, Lib.hid (HE.out.kind (4 * y))⟩
            case rest =>
              clear HE
              obtain ⟨k3, m3, HE⟩ := hcut
              obtain ⟨V3, hV3⟩ : ∃ w', w' = wc := ⟨_, rfl⟩
              rw [← hV3] at HE ⊢
              clear hV3
              obtain ⟨⟨o0, o1⟩, f0, f1⟩ := rowN2 HE.out.row
              have l0 := HE.out.row.lt
              have hsz : w.heap.size + 1 ≤ V3.heap.size := HE.out.d.src.lt
              go_wp2_with (at_builtin; refine wpList_append_own _ rfl _ _ 35 rfl (w.heap.size + 1) 41 i1 _ 2 16 Tryd.underlying35 hi1 hy0 hy1 hy2 rfl (by decide) _ _ _ rfl (HE.out.d.own.alloc _) ⟨V3.heap.size, 0, none⟩ 1 1 [.int .i64 k3, .int .i64 m3] rfl rfl ?d1 ?d2 ?d3 ?d4 ?d5 ?_)
              case d1 =>
                intro j x hj
                match j, hj with
                | 0, hj => simp at hj; subst hj; simp [Addr.add]
                | 1, hj => simp at hj; subst hj; simp [Addr.add]
              case d2 =>
                intro x hx
                simp at hx
                rcases hx with rfl | rfl <;> rfl
              case d3 => unfold maxLen; omega
              case d4 => omega
              case d5 => simp; omega
              intro v5 W5 hown hgrow hnil
              have HF5 := Lib.hid (HE.out.d.push hgrow hown)
              obtain ⟨a5, c5, e5, h5⟩ := ls_of HF5.out.own
              subst e5
              obtain ⟨g5, e5, _⟩ : ∃ g, a5 = some ⟨g, 0, none⟩ ∧ True := by
                rcases h5 with h5 | ⟨g, e, _⟩
                · exact absurd h5.2.1 (by omega)
                · exact ⟨g, e, trivial⟩
              subst e5
              clear hown hgrow hnil HE o0 o1 f0 f1 l0 h5
              go_wp2_with fail
              obtain ⟨k', rfl⟩ : ∃ k', kk = k' + 1 := ⟨kk - 1, by omega⟩
              go_roundw
              case rel => exact ⟨k', n + 1, zs ++ [k3, m3], g5, c5, by go_num, rfl, by omega, HF5⟩
              case measure => simp [intOf]
      · obtain rfl : kk = 0 := by omega
        go_wp2_with fail
        obtain ⟨a9, c9, e9, h9⟩ := ls_of HF.out.own
        cases e9
        have HO : Hid (IsBlk 41 gl (n * 2) (qf zs) wr) := by
          rcases h9 with h9 | ⟨g, e, _, h9⟩
          · cases h9.1
          · cases e; exact h9
        have HL : Hid (zs.length = n * 2) := by have := HF.out.own.1; unfold iv at this; show _ = _; simpa using this
        have HB := Lib.hid HF.out.bel
        clear h9
        go_wp2_with fail
        exact bodyPost_ret (v := .slice (some ⟨gl, 0, none⟩) n cl) (by simp only [results, Tryd.results13]; simp [go_sem]) rfl ⟨⟨gl, n, cl, zs, rfl, by omega, HL.out, HO.out⟩, HB.out⟩
end Go.Proofs.YtnbnfifgajfomaaDoor
