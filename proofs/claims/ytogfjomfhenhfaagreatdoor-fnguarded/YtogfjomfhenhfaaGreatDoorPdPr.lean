/-
  The draw of a program.
-/
import Derived.Test.YtogfjomfhenhfaaGreatDoorPdMem
import Derived.Test.YtogfjomfhenhfaaGreatDoorPdNm
import Derived.Test.YtogfjomfhenhfaaGreatDoorCyMem
import Derived.Deep.DeepCutAuto
import Derived.Deep.CutBlock
namespace Go.Proofs.YtogfjomfhenhfaaGreatDoor
open Go Go.RowKit Go.Deep

theorem pdbinfo : (Tryz.prog.info? 84).map (fun i => (i.zero, i.size, i.bytes)) = some (some (.agg #[.int .i64 0, .string ⟨#[]⟩, .int .i64 0, .int .i64 0]), 4, 40) := by kernel_rfl
theorem pdpinfo : (Tryz.prog.info? 36).map (fun i => (i.zero, i.size, i.bytes)) = some (some (.agg #[.int .i64 0, .int .i64 0]), 2, 16) := by kernel_rfl
theorem pdsrc_size {sb : Nat} {W : World} (h : Src sb W) : ∃ z : Int, W.cell? ⟨sb, 3, none⟩ = some (.int .i64 z) ∧ 0 ≤ z ∧ z ≤ 12 := by
  obtain ⟨a, len, cap, at_, mix, size, ⟨c0, c1, c2, c3, _⟩, h1, h2, h3, h4, h5, h6⟩ := h
  exact ⟨size, c3, h4, h5⟩
/-- A drawn out. -/
theorem own_int {W : World} {B n : Nat} {gf fc : Nat} {os : List Int} (h : W.ownsRow B 2 1 (.slice (some ⟨gf, 0, none⟩) n fc) os.length (os.map (Value.int .i64))) {i : Nat} (hi : i < os.length) : W.cell? ⟨gf, i, none⟩ = some (.int .i64 (os.getD i 0)) := by
  have := h.cells (show (Value.slice (some ⟨gf, 0, none⟩) n fc).ownBlock = some gf from rfl) i (.int .i64 (os.getD i 0)) (by rw [List.getElem?_map, List.getElem?_eq_getElem hi, List.getD_eq_getElem?_getD, List.getElem?_eq_getElem hi]; rfl)
  rw [Addr.add_lit, Nat.zero_add] at this
  exact this
theorem own_at {W : World} {B s : Nat} {T : TypeId} {v : Value} {n : Nat} {xs : List Value} (h : W.ownsRow B T s v n xs) (hn : 0 < n) : ∃ g c, v = .slice (some ⟨g, 0, none⟩) n c := by
  rcases h.2 with ⟨_, h2⟩ | ⟨g, cp, _, e, _⟩
  · omega
  · exact ⟨g, cp, e⟩
/-- What is read while a pair is appended. -/
def PdQ (w : World) (g : Nat) (va vf : Value) (os : List Int) (V : World) : Prop := (∃ x, V.rowIs g 27 3 (rowN [va, vf, x])) ∧ V.ownsRow w.heap.size 2 1 vf os.length (os.map (Value.int .i64))
/-- A block in its box, while it is drawn. -/
structure PdB (w : World) (sb r g b : Nat) (va : Value) (bl : List Pg.Bk) (x : Pg.Bk) (W : World) : Prop where
  s : PdS w sb r g va bl (.slice none 0 0) [] (.slice none 0 0) [] W
  row : W.rowIs b 84 4 (rowN [.int .i64 x.kind, .string x.name, .int .i64 x.a, .int .i64 x.b])
  lo : g < b
  far : va.ownBlock ≠ some b
  nm : x.name.size ≤ 64
section
variable {w : World} {sb r g b : Nat} {va : Value} {bl : List Pg.Bk} {x : Pg.Bk} {W W' : World}
theorem PdB.draw (h : PdB w sb r g b va bl x W) (hd : Drew sb W W') : PdB w sb r g b va bl x W' :=
  ⟨h.s.draw hd, h.row.of_block (hd.2.2.2.2.2 b h.row.lt (by have := h.s.lo; have := h.lo; omega)), h.lo, h.far, h.nm⟩
/-- The list stands while the block changes. -/
theorem PdB.keep (h : PdB w sb r g b va bl x W) (i : Nat) (v : Value) : PdS w sb r g va bl (.slice none 0 0) [] (.slice none 0 0) [] (W.setCell ⟨b, i, none⟩ v) := by
  have lo := h.s.lo
  have hlo := h.lo
  have hk : ∀ k, k ≠ b → (W.setCell ⟨b, i, none⟩ v).heap[k]? = W.heap[k]? := fun k hk => Below.heap_setCell _ _ _ _ hk
  exact ⟨nrow_set h.s.box (p := ⟨b, i, none⟩) (by show g ≠ b; omega) _, nrow_set h.s.res (p := ⟨b, i, none⟩) (by show r ≠ b; omega) _, d_far h.s.oa (fun k hk2 _ => hk k (fun e => h.far (by rw [hk2, e]))), d_far h.s.of (fun k hk2 _ => by simp [Value.ownBlock] at hk2), d_far h.s.ow (fun k hk2 _ => by simp [Value.ownBlock] at hk2), h.s.nm, pdrew_set h.s.src lo.1 (by omega), lo⟩
theorem PdB.setK (h : PdB w sb r g b va bl x W) (z : Int) : PdB w sb r g b va bl ⟨z, x.name, x.a, x.b⟩ (W.setCell ⟨b, 0, none⟩ (.int .i64 z)) := ⟨h.keep 0 _, rowN_put h.row 0 (.int .i64 z) (by simp), h.lo, h.far, h.nm⟩
theorem PdB.setA (h : PdB w sb r g b va bl x W) (z : Int) : PdB w sb r g b va bl ⟨x.kind, x.name, z, x.b⟩ (W.setCell ⟨b, 2, none⟩ (.int .i64 z)) := ⟨h.keep 2 _, rowN_put h.row 2 (.int .i64 z) (by simp), h.lo, h.far, h.nm⟩
theorem PdB.setB (h : PdB w sb r g b va bl x W) (z : Int) : PdB w sb r g b va bl ⟨x.kind, x.name, x.a, z⟩ (W.setCell ⟨b, 3, none⟩ (.int .i64 z)) := ⟨h.keep 3 _, rowN_put h.row 3 (.int .i64 z) (by simp), h.lo, h.far, h.nm⟩
theorem PdB.start {V : World} (h : PdS w sb r g va bl (.slice none 0 0) [] (.slice none 0 0) [] V) (hx : x.name.size ≤ 64) : PdB w sb r g V.heap.size va bl x (V.alloc (.cells #[.int .i64 x.kind, .string x.name, .int .i64 x.a, .int .i64 x.b] 84)) :=
  ⟨h.bel (nbel_alloc _ _), rowN_alloc V [.int .i64 x.kind, .string x.name, .int .i64 x.a, .int .i64 x.b] _, h.box.lt, fun e => by have := (h.oa.lt _ e).2; omega, hx⟩
end
/-- What is told of a drawn program. -/
structure PdO (B : Nat) (va : Value) (bl : List Pg.Bk) (vf : Value) (os : List Int) (vw : Value) (ns : List (Int × Int)) (W : World) : Prop where
  oa : W.ownsRow B 84 4 va bl.length (bkVs bl)
  of : W.ownsRow B 2 1 vf os.length (os.map (Value.int .i64))
  ow : W.ownsRow B 36 2 vw ns.length (nvs ns)
  nm : ∀ x, x ∈ bl → x.name.size ≤ 64
  len : bl.length ≤ 102 ∧ os.length ≤ 103 ∧ ns.length ≤ 104
def PdEnd (w : World) (e : Ending) (w' : World) : Prop := ∃ va bl vf os vw ns, e = .returned (.agg #[va, vf, vw]) ∧ PdO w.heap.size va bl vf os vw ns w'
set_option maxRecDepth 100000 in
set_option maxHeartbeats 16000000 in
theorem l20Prog_any (sb : Nat) (w : World) (h : Src sb w) :
    Calls Tryz.prog 37 #[.pointer (some ⟨sb, 0, none⟩)] w fun e w' => PdEnd w e w' ∧ Drew sb w w' := by
  obtain ⟨i0, hi0, hz0, hz1, hz2⟩ := info_parts pdbinfo
  obtain ⟨i1, hi1, hy0, hy1, hy2⟩ := info_parts pdinfo
  obtain ⟨i2, hi2, hx0, hx1, hx2⟩ := info_parts pdpinfo
  have HI0 := Lib.hid (And.intro hi0 (And.intro hz0 (And.intro hz1 hz2)))
  have HI1 := Lib.hid (And.intro hi1 (And.intro hy0 (And.intro hy1 hy2)))
  have HI2 := Lib.hid (And.intro hi2 (And.intro hx0 (And.intro hx1 hx2)))
  obtain ⟨r, hr⟩ : ∃ r, r = w.heap.size := ⟨_, rfl⟩
  obtain ⟨g, hg⟩ : ∃ g, g = r + 1 := ⟨_, rfl⟩
  obtain ⟨W, hW⟩ : ∃ W, W = (w.alloc (.cells #[.slice none 0 0, .slice none 0 0, .slice none 0 0] 27)).alloc (.cells #[.slice none 0 0, .slice none 0 0, .slice none 0 0] 27) := ⟨_, rfl⟩
  have HS : Hid (PdS w sb r g (.slice none 0 0) [] (.slice none 0 0) [] (.slice none 0 0) [] W) := by
    show PdS _ _ _ _ _ _ _ _ _ _ _
    rw [hW]
    refine ⟨by rw [hg, hr]; exact rowN_alloc' (by simp) [.slice none 0 0, .slice none 0 0, .slice none 0 0] _, by rw [hr]; exact nrow_below (rowN_alloc w [.slice none 0 0, .slice none 0 0, .slice none 0 0] _) (nbel_alloc _ _), World.ownsRow_nil _ _ _ _, World.ownsRow_nil _ _ _ _, World.ownsRow_nil _ _ _ _, (fun x hx => by cases hx), pdrew_bel (pdrew_bel (V := w) ⟨h, Chg.refl _ _⟩ (nbel_alloc _ _)) (nbel_alloc _ _), h.lt, by omega, by omega⟩
  have HW := Lib.hid hW
  have HRR := Lib.hid hr
  have HGG := Lib.hid hg
  obtain ⟨z, cz, z0, z1⟩ := pdsrc_size HS.out.src.1
  rw [hW] at cz
  clear hW hr hg h hi0 hz0 hz1 hz2 hi1 hy0 hy1 hy2 hi2 hx0 hx1 hx2
  go_enter Tryz.func37, Tryz.ntmps37
  go_wp2_with fail
  rw [← HRR.out, ← HGG.out, ← HW.out]
  clear HW HRR HGG cz
  refine (n_any sb (6 + z) _ HS.out.src.1 (by omega)).mono ?_
  rintro e w1 ⟨⟨v, rfl, va, vb, vc⟩, hD⟩
  have vd : v ≤ 18 := by
    have := vb (by omega)
    omega
  replace HS := Lib.hid (HS.out.draw hD)
  clear hD vb vc z0 z1
  go_wp2_with fail
  refine (one_any sb 40 _ HS.out.src.1 (by omega)).mono ?_
  rintro e w2 ⟨⟨bb, rfl⟩, hD⟩
  replace HS := Lib.hid (HS.out.draw hD)
  clear hD
  go_upto_if 19 with fail
  go_cut [4] from 20 to 22 (fun nv wx => ∃ N : Nat, nv = .int .i64 N ∧ (1 ≤ N ∧ N ≤ 101) ∧ Hid (PdS w sb r g (.slice none 0 0) [] (.slice none 0 0) [] (.slice none 0 0) [] wx))
  case first =>
    cases bb
    · obtain ⟨N, hN⟩ : ∃ N : Nat, 1 + v = (N : Int) := ⟨(1 + v).toNat, by omega⟩
      go_wp2_with fail
      go_meet
      case rel => exact ⟨N, by rw [hN], by omega, HS⟩
    · go_wp2_with fail
      refine (n_any sb 3 _ HS.out.src.1 (by omega)).mono ?_
      rintro e w3 ⟨⟨u, rfl, ua, ub, uc⟩, hD⟩
      have ud := ub (by omega)
      replace HS := Lib.hid (HS.out.draw hD)
      obtain ⟨t, rfl⟩ : ∃ t : Nat, u = (t : Int) := ⟨u.toNat, by omega⟩
      clear hD ub uc
      go_wp2_with fail
      go_meet
      case rel => exact ⟨99 + t, by first | rfl | simp, by omega, HS⟩
  case rest =>
    clear HS va vd
    obtain ⟨N, rfl, hN, HS⟩ := hcut
    obtain ⟨V1, hV1⟩ : ∃ w', w' = wc := ⟨_, rfl⟩
    rw [← hV1] at HS ⊢
    clear hV1
    go_wp2_with fail
    go_loopw [5, 6] (fun iv _ wr => ∃ (i : Nat) (va : Value) (bl : List Pg.Bk), i ≤ N ∧ iv = .int .i64 i ∧ Hid (bl.length = i) ∧ Hid (PdS w sb r g va bl (.slice none 0 0) [] (.slice none 0 0) [] wr)) (fun iv _ _ => N - (intOf iv).toNat)
    case atStart => exact ⟨0, _, [], Nat.zero_le _, rfl, rfl, HS⟩
    case round =>
      obtain ⟨i, va, bl, hi, rfl, hL, hS⟩ := hrel
      clear HS
      by_cases hlt : i < N
      · have hltz : (i : Int) < (N : Int) := by omega
        go_wp2_with fail
        refine (n_any sb 7 _ hS.out.src.1 (by omega)).mono ?_
        rintro e w3 ⟨⟨u, rfl, ua, ub, uc⟩, hD⟩
        have ud := ub (by omega)
        replace hS := Lib.hid (hS.out.draw hD)
        clear hD ub uc
        go_wp2_with fail
        refine (l20Name_any i _ (by omega)).mono ?_
        rintro e w4 ⟨⟨nm, rfl, hnm⟩, hb⟩
        replace hS := Lib.hid (hS.out.bel hb)
        have HB := Lib.hid (PdB.start (x := ⟨1 + u, nm, 0, 0⟩) hS.out hnm)
        obtain ⟨V4, hV4⟩ : ∃ V, V = w4.alloc (.cells #[.int .i64 (1 + u), .string nm, .int .i64 0, .int .i64 0] 84) := ⟨_, rfl⟩
        obtain ⟨b, hbb⟩ : ∃ b, b = w4.heap.size := ⟨_, rfl⟩
        replace HB : Hid (PdB w sb r g b va bl ⟨1 + u, nm, 0, 0⟩ V4) := by show PdB _ _ _ _ _ _ _ _ _; rw [hV4, hbb]; exact HB.out
        have HV4 := Lib.hid hV4
        have HBB := Lib.hid hbb
        clear hb hV4 hbb hS hnm
        go_upto_region 9 with fail
        rw [← HBB.out, ← HV4.out]
        clear HV4 HBB
        go_cut [39] from 34 to 39 (fun c wx => ∃ q : Bool, c = .bool q ∧ Hid (PdB w sb r g b va bl ⟨1 + u, nm, 0, 0⟩ wx))
        case first =>
          by_cases h2 : (i : Int) < 2
          · go_wp2_with fail
            go_meet
            case rel => exact ⟨true, rfl, HB⟩
          · go_wp2_with fail
            refine (one_any sb 5 _ HB.out.s.src.1 (by omega)).mono ?_
            rintro e w5 ⟨⟨q, rfl⟩, hD⟩
            replace HB := Lib.hid (HB.out.draw hD)
            clear hD
            go_wp2_with fail
            go_meet
            case rel => exact ⟨q, rfl, HB⟩
        case rest =>
          obtain ⟨q, rfl, hB1⟩ := hcut
          clear HB
          obtain ⟨V5, hV5⟩ : ∃ w', w' = wc := ⟨_, rfl⟩
          rw [← hV5] at hB1 ⊢
          clear hV5
          go_upto_if 39 with fail
          go_cut [] from 40 to 40 (fun wx => ∃ x : Pg.Bk, Hid (PdB w sb r g b va bl x wx))
          case first =>
            obtain ⟨⟨c0, c1, c2, c3⟩, f0, f1, f2, f3⟩ := rowN4 hB1.out.row
            have hbl := hB1.out.row.lt
            have HB2 := Lib.hid (hB1.out.setK 1)
            cases q
            · go_wp2_with fail
              go_meet
              case rel => exact ⟨_, hB1⟩
            · go_wp2_with fail
              go_meet
              case rel => exact ⟨_, HB2⟩
          case rest =>
            obtain ⟨x, hB2⟩ := hcut
            clear hB1
            obtain ⟨V6, hV6⟩ : ∃ w', w' = wc := ⟨_, rfl⟩
            rw [← hV6] at hB2 ⊢
            clear hV6
            obtain ⟨⟨c0, c1, c2, c3⟩, f0, f1, f2, f3⟩ := rowN4 hB2.out.row
            have hbl := hB2.out.row.lt
            go_upto_if 43 with fail
            go_cut [] from 43 to 47 (fun wx => ∃ x : Pg.Bk, Hid (PdB w sb r g b va bl x wx))
            case first =>
              by_cases h1 : x.kind = 1
              · have hk1 : (x.kind != 1) = false := by simp [h1]
                clear h1
                go_wp2_with fail
                go_meet
                case rel => exact ⟨_, hB2⟩
              · have hk1 : (x.kind != 1) = true := by simp [h1]
                clear h1 c0 c1 c2 c3 f0 f1 f2 f3 hbl
                go_wp2_with fail
                refine (n_any sb (i : Int) _ hB2.out.s.src.1 (by omega)).mono ?_
                rintro e w6 ⟨⟨k, rfl, _, _, _⟩, hD⟩
                replace hB2 := Lib.hid (hB2.out.draw hD)
                clear hD
                obtain ⟨⟨c0, c1, c2, c3⟩, f0, f1, f2, f3⟩ := rowN4 hB2.out.row
                have hbl := hB2.out.row.lt
                have HB3 := Lib.hid (hB2.out.setA k)
                go_wp2_with fail
                go_meet
                case rel => exact ⟨_, HB3⟩
            case rest =>
              obtain ⟨x2, hB3⟩ := hcut
              clear hB2 c0 c1 c2 c3 f0 f1 f2 f3 hbl
              obtain ⟨V7, hV7⟩ : ∃ w', w' = wc := ⟨_, rfl⟩
              rw [← hV7] at hB3 ⊢
              clear hV7
              obtain ⟨⟨c0, c1, c2, c3⟩, f0, f1, f2, f3⟩ := rowN4 hB3.out.row
              have hbl := hB3.out.row.lt
              go_upto_block 2 with fail
              go_cut [] from 49 to 69 (fun wx => ∃ x : Pg.Bk, Hid (PdB w sb r g b va bl x wx))
              case first =>
                obtain ⟨kd, hkd⟩ : ∃ kd, kd = x2.kind := ⟨_, rfl⟩
                rw [← hkd] at c0 ⊢
                clear c0 c1 c2 c3 f0 f1 f2 f3 hbl hkd
                have hwalk : True := trivial
                by_cases k2 : kd = 2 ∨ kd = 3 ∨ kd = 6
                · rcases k2 with rfl | rfl | rfl
                  all_goals
                    go_wp2_with fail
                    refine (n_any sb (i : Int) _ hB3.out.s.src.1 (by omega)).mono ?_
                    rintro e w6 ⟨⟨k, rfl, _, _, _⟩, hD⟩
                    have hB4 := Lib.hid (hB3.out.draw hD)
                    clear hD
                    obtain ⟨⟨c0, c1, c2, c3⟩, f0, f1, f2, f3⟩ := rowN4 hB4.out.row
                    have hbl := hB4.out.row.lt
                    have HB5 := Lib.hid (hB4.out.setB k)
                    go_wp2_with fail
                    go_meet
                    exact ⟨_, HB5⟩
                · have n2 : (kd == 2) = false := by simp; omega
                  have n3 : (kd == 3) = false := by simp; omega
                  have n6 : (kd == 6) = false := by simp; omega
                  by_cases k5 : kd = 5
                  · subst k5
                    clear n2 n3 n6 k2
                    go_wp2_with fail
                    refine (n_any sb (N : Int) _ hB3.out.s.src.1 (by omega)).mono ?_
                    rintro e w6 ⟨⟨k, rfl, _, _, _⟩, hD⟩
                    have hB4 := Lib.hid (hB3.out.draw hD)
                    clear hD
                    obtain ⟨⟨c0, c1, c2, c3⟩, f0, f1, f2, f3⟩ := rowN4 hB4.out.row
                    have hbl := hB4.out.row.lt
                    have HB5 := Lib.hid (hB4.out.setA k)
                    go_wp2_with fail
                    go_meet
                    exact ⟨_, HB5⟩
                  · have n5 : (kd == 5) = false := by simp; omega
                    by_cases k7 : kd = 7
                    · subst k7
                      clear n2 n3 n5 n6 k2 k5
                      go_wp2_with fail
                      refine (n_any sb 3 _ hB3.out.s.src.1 (by omega)).mono ?_
                      rintro e w6 ⟨⟨k, rfl, ka, kb, _⟩, hD⟩
                      have kc := kb (by omega)
                      have hB4 := Lib.hid (hB3.out.draw hD)
                      clear hD kb
                      obtain ⟨⟨c0, c1, c2, c3⟩, f0, f1, f2, f3⟩ := rowN4 hB4.out.row
                      have hbl := hB4.out.row.lt
                      have HB5 := Lib.hid (hB4.out.setB (1 + k))
                      go_wp2_with fail
                      go_meet
                      exact ⟨_, HB5⟩
                    · have n7 : (kd == 7) = false := by simp; omega
                      clear k2 k5 k7
                      go_wp2_with fail
                      go_meet
                      exact ⟨_, hB3⟩
              case rest =>
                obtain ⟨x3, hB4⟩ := hcut
                clear hB3 c0 c1 c2 c3 f0 f1 f2 f3 hbl
                obtain ⟨V8, hV8⟩ : ∃ w', w' = wc := ⟨_, rfl⟩
                rw [← hV8] at hB4 ⊢
                clear hV8
                obtain ⟨av, cv, hva⟩ := d_shape hB4.out.s.oa
                subst hva
                obtain ⟨hi0, hz0, hz1, hz2⟩ := HI0.out
                obtain ⟨⟨c0, c1, c2, c3⟩, _⟩ := rowN4 hB4.out.row
                obtain ⟨⟨p0, p1, p2⟩, _⟩ := rowN3 hB4.out.s.box
                have hln : bl.length ≤ 101 := by rw [hL.out]; omega
                have hgl := hB4.out.s.box.lt
                have hbl := hB4.out.row.lt
                go_wp2_with (at_builtin; refine wpList_append_own _ rfl _ _ 23 rfl w.heap.size 84 i0 _ 4 40 Tryz.underlying23 hi0 hz0 hz1 hz2 rfl (by decide) _ _ _ rfl (hB4.out.s.oa.alloc _) ⟨V8.heap.size, 0, none⟩ 1 1 [.int .i64 x3.kind, .string x3.name, .int .i64 x3.a, .int .i64 x3.b] rfl rfl ?c1 ?c2 ?c3 ?c4 ?c5 ?_)
                case c1 =>
                  intro j u hj
                  match j, hj with
                  | 0, hj => (simp at hj; subst hj; simp [Addr.add])
                  | 1, hj => (simp at hj; subst hj; simp [Addr.add])
                  | 2, hj => (simp at hj; subst hj; simp [Addr.add])
                  | 3, hj => (simp at hj; subst hj; simp [Addr.add])
                case c2 =>
                  intro u hu
                  simp at hu
                  rcases hu with rfl | rfl | rfl | rfl <;> rfl
                case c3 => unfold maxLen; omega
                case c4 => omega
                case c5 => have := hB4.out.s.src.2.2.2.2.1; simp; omega
                intro v' w9 hown hgrow hnil
                obtain ⟨av2, cv2, hv2⟩ := d_shape hown
                subst hv2
                have HS9 := Lib.hid (hB4.out.s.pushB hB4.out.nm hgrow hown)
                have m9 := Mut.of_grown hB4.out.s.oa hgrow
                have b9 := m9.row hB4.out.s.box (by decide)
                clear hown hgrow hnil hB4 m9 p0 p1 p2 c0 c1 c2 c3 hgl hbl hi0 hz0 hz1 hz2
                obtain ⟨⟨p0, p1, p2⟩, q0, q1, q2⟩ := rowN3 b9
                have hgl := b9.lt
                clear b9
                go_wp2_with fail
                go_roundw
                case rel => exact ⟨i + 1, _, bl ++ [x3], by omega, by go_num, by show _ = _; rw [List.length_append, hL.out]; rfl, HS9⟩
                case measure => simp [intOf]; omega
      · obtain rfl : N = i := by omega
        go_wp2_with fail
        refine (drising_any sb N 3 (by omega) (by omega) _ hS.out.src.1).mono ?_
        rintro e w10 ⟨vf, rfl, os, hos, hDL⟩
        obtain ⟨fv, fc, hvf⟩ := d_shape hDL.1
        subst hvf
        have HS10 := Lib.hid (hS.out.outs hDL.2.1 hDL.1)
        have b10 := (hS.out.draw hDL.2.1).box
        obtain ⟨⟨p0, p1, p2⟩, q0, q1, q2⟩ := rowN3 b10
        have hgl := b10.lt
        clear hDL hS b10
        go_wp2_with fail
        clear p0 p1 p2 q0 q1 q2 hgl
        obtain ⟨V11, hV11⟩ : ∃ V, V = w10.setCell ⟨g, 1, none⟩ (.slice fv os.length fc) := ⟨_, rfl⟩
        rw [← hV11] at HS10 ⊢
        clear hV11
        go_loopw [7] (fun iv wr => ∃ (i : Nat) (vw : Value) (ns : List (Int × Int)), i ≤ os.length ∧ iv = .int .i64 i ∧ Hid (ns.length ≤ i) ∧ Hid (PdS w sb r g va bl (.slice fv os.length fc) os vw ns wr)) (fun iv _ => os.length - (intOf iv).toNat)
        case atStart => exact ⟨0, _, [], Nat.zero_le _, rfl, Nat.le_refl _, HS10⟩
        case round =>
          obtain ⟨i, vw, ns, hi9, rfl, hns, hS⟩ := hrel
          clear HS10
          obtain ⟨⟨p0, p1, p2⟩, _⟩ := rowN3 hS.out.box
          by_cases hlt9 : i + 1 < os.length
          · have hltz9 : (i : Int) + 1 < (os.length : Int) := by omega
            have hltz8 : (i : Int) < (os.length : Int) := by omega
            have hnn9 : ¬ (i : Int) + 1 < 0 := by omega
            have hi10 : (i : Int) ≤ 1000 := by omega
            obtain ⟨xo, hxo⟩ : ∃ x, x = os.getD i 0 := ⟨_, rfl⟩
            obtain ⟨yo, hyo⟩ : ∃ x, x = os.getD (i + 1) 0 := ⟨_, rfl⟩
            have HXO := Lib.hid hxo
            have HYO := Lib.hid hyo
            clear hxo hyo
            obtain ⟨gf, fc', hfv⟩ := own_at hS.out.of (by omega)
            obtain ⟨wv, wc, hvw⟩ := d_shape hS.out.ow
            subst hvw
            simp at hfv
            obtain ⟨rfl, rfl⟩ := hfv
            go_wp2_with fail
            clear p0 p1 p2
            refine (one_any sb 4 _ hS.out.src.1 (by omega)).mono ?_
            rintro e w11 ⟨⟨q, rfl⟩, hD⟩
            replace hS := Lib.hid (hS.out.draw hD)
            clear hD
            cases q with
            | false =>
              go_wp2_with fail
              go_roundw
              case rel => exact ⟨i + 1, _, ns, by omega, by go_num, by show _ ≤ _; have := hns.out; omega, hS⟩
              case measure => simp [intOf]; omega
            | true =>
              obtain ⟨hi2, hx0, hx1, hx2⟩ := HI2.out
              go_wp2_with fail
              refine wp_region_held_drew (S := PdQ w g va (.slice (some ⟨gf, 0, none⟩) os.length fc) os) (by kernel_rfl) ⟨⟨_, nrow_below hS.out.box (Below.refl _ _).drew⟩, (hS.out.bel (Below.refl _ _).drew).of⟩ (fun hHeld => ?_)
              have HSD := Lib.hid (hS.out.bel (Below.refl _ _).drew)
              obtain ⟨Z, hZ⟩ : ∃ Z, Z = w11.drew := ⟨_, rfl⟩
              rw [← hZ] at hHeld HSD ⊢
              clear hZ hS
              refine take_do (i := 0) (v := (.pointer (some ⟨g, 2, none⟩))) rfl (by kernel_rfl) (by kernel_rfl) (by kernel_rfl) (fun _ _ _ h => h) (by rfl) ?_ (by assumption) ?_
              · intro w hSw
                go_simp
              simp only [Act.put, List.setIfInBounds_toArray, List.set_cons_zero, List.set_cons_succ]
              refine take_do (i := 2) (v := (.pointer (some ⟨g, 1, none⟩))) rfl (by kernel_rfl) (by kernel_rfl) (by kernel_rfl) (fun _ _ _ h => h) (by rfl) ?_ (by assumption) ?_
              · intro w hSw
                go_simp
              simp only [Act.put, List.setIfInBounds_toArray, List.set_cons_zero, List.set_cons_succ]
              refine take_do (i := 3) (v := (.slice (some ⟨gf, 0, none⟩) os.length fc)) rfl (by kernel_rfl) (by kernel_rfl) (by kernel_rfl) (fun _ _ _ h => h) (by rfl) ?_ (by assumption) ?_
              · intro w hSw
                obtain ⟨⟨xx, hxx⟩, _⟩ := hSw
                obtain ⟨⟨p0, p1, p2⟩, _⟩ := rowN3 hxx
                go_simp
              simp only [Act.put, List.setIfInBounds_toArray, List.set_cons_zero, List.set_cons_succ]
              refine take_do (i := 4) (v := (.int .i64 i)) rfl (by kernel_rfl) (by kernel_rfl) (by kernel_rfl) (fun _ _ _ h => h) (by rfl) ?_ (by assumption) ?_
              · intro w hSw
                go_simp
              simp only [Act.put, List.setIfInBounds_toArray, List.set_cons_zero, List.set_cons_succ]
              refine take_do (i := 5) (v := (.pointer (some ⟨gf, i, none⟩))) rfl (by kernel_rfl) (by kernel_rfl) (by kernel_rfl) (fun _ _ _ h => h) (by rfl) ?_ (by assumption) ?_
              · intro w hSw
                go_simp
              simp only [Act.put, List.setIfInBounds_toArray, List.set_cons_zero, List.set_cons_succ]
              refine take_do (i := 6) (v := (.int .i64 (xo))) rfl (by kernel_rfl) (by kernel_rfl) (by kernel_rfl) (fun _ _ _ h => h) (by rfl) ?_ (by assumption) ?_
              · intro w hSw
                have oc := own_int hSw.2 (i := i) (by omega)
                rw [← HXO.out] at oc
                go_simp
              simp only [Act.put, List.setIfInBounds_toArray, List.set_cons_zero, List.set_cons_succ]
              refine take_do (i := 7) (v := (.pointer (some ⟨g, 1, none⟩))) rfl (by kernel_rfl) (by kernel_rfl) (by kernel_rfl) (fun _ _ _ h => h) (by rfl) ?_ (by assumption) ?_
              · intro w hSw
                go_simp
              simp only [Act.put, List.setIfInBounds_toArray, List.set_cons_zero, List.set_cons_succ]
              refine take_do (i := 8) (v := (.slice (some ⟨gf, 0, none⟩) os.length fc)) rfl (by kernel_rfl) (by kernel_rfl) (by kernel_rfl) (fun _ _ _ h => h) (by rfl) ?_ (by assumption) ?_
              · intro w hSw
                obtain ⟨⟨xx, hxx⟩, _⟩ := hSw
                obtain ⟨⟨p0, p1, p2⟩, _⟩ := rowN3 hxx
                go_simp
              simp only [Act.put, List.setIfInBounds_toArray, List.set_cons_zero, List.set_cons_succ]
              refine take_do (i := 9) (v := (.int .i64 i)) rfl (by kernel_rfl) (by kernel_rfl) (by kernel_rfl) (fun _ _ _ h => h) (by rfl) ?_ (by assumption) ?_
              · intro w hSw
                go_simp
              simp only [Act.put, List.setIfInBounds_toArray, List.set_cons_zero, List.set_cons_succ]
              refine take_do (i := 10) (v := (.int .i64 ((i + 1 : Nat) : Int))) rfl (by kernel_rfl) (by kernel_rfl) (by kernel_rfl) (fun _ _ _ h => h) (by rfl) ?_ (by assumption) ?_
              · intro w hSw
                go_simp
                exact nmwrap (by omega) (by omega)
              simp only [Act.put, List.setIfInBounds_toArray, List.set_cons_zero, List.set_cons_succ]
              refine take_do (i := 11) (v := (.pointer (some ⟨gf, i + 1, none⟩))) rfl (by kernel_rfl) (by kernel_rfl) (by kernel_rfl) (fun _ _ _ h => h) (by rfl) ?_ (by assumption) ?_
              · intro w hSw
                go_simp
              simp only [Act.put, List.setIfInBounds_toArray, List.set_cons_zero, List.set_cons_succ]
              refine take_do (i := 12) (v := (.int .i64 yo)) rfl (by kernel_rfl) (by kernel_rfl) (by kernel_rfl) (fun _ _ _ h => h) (by rfl) ?_ (by assumption) ?_
              · intro w hSw
                have oc := own_int hSw.2 (i := i + 1) (by omega)
                rw [← HYO.out] at oc
                go_simp
              simp only [Act.put, List.setIfInBounds_toArray, List.set_cons_zero, List.set_cons_succ]
              refine take_do (i := 13) (v := (.agg #[.int .i64 (xo), .int .i64 yo])) rfl (by kernel_rfl) (by kernel_rfl) (by kernel_rfl) (fun _ _ _ h => h) (by rfl) ?_ (by assumption) ?_
              · intro w hSw
                go_simp
              simp only [Act.put, List.setIfInBounds_toArray, List.set_cons_zero, List.set_cons_succ]
              refine wpAnyH_ready (rs := [1, 14]) (by kernel_rfl) (by simp) (AllReadyH.cons (at_drop (i := 1) rfl) (fun K2 hK => ?_) (AllReadyH.cons (at_drop (i := 14) rfl) (fun K2 hK => ?_) AllReadyH.nil))
              · obtain ⟨⟨p0, p1, p2⟩, _⟩ := rowN3 HSD.out.box
                go_simp
                refine hK.out _ _ hHeld (fun hHeld2 => ?_)
                clear hK hHeld p0 p1 p2
                refine take_call (i := 14) rfl (by kernel_rfl) (fun K2 hK => ?_)
                go_simp
                obtain ⟨VA, hV9⟩ : ∃ V, V = Z.alloc (.cells #[.int .i64 (xo), .int .i64 yo] 36) := ⟨_, rfl⟩
                obtain ⟨pb, hpb⟩ : ∃ pb, pb = Z.heap.size := ⟨_, rfl⟩
                have HM : Hid (IsIn (some ⟨pb, 0, none⟩) (([(xo, yo)] : List Ln.Nt).length * 2) (Ln.fl [(xo, yo)]) VA) := by show IsIn _ _ _ _; rw [hV9, hpb]; exact one_in _ _ _ _
                have HSA : Hid (PdS w sb r g va bl (.slice (some ⟨gf, 0, none⟩) os.length fc) os (.slice wv ns.length wc) ns VA) := by show PdS _ _ _ _ _ _ _ _ _ _ _; rw [hV9]; exact HSD.out.bel (nbel_alloc _ _)
                rw [← hV9, ← hpb]
                clear hV9 hpb
                refine hK.out _ _ ⟨⟨_, HSA.out.box⟩, HSA.out.of⟩ (fun hHeld3 => ?_)
                clear hK hHeld2 hHeld3 HSD
                refine take_call (i := 15) rfl (by kernel_rfl) (fun K2 hK => ?_)
                refine step_append_ns rfl _ _ 25 rfl 36 i2 (.agg #[.int .i64 0, .int .i64 0]) 16 Tryz.underlying25 hi2 hx0 hx1 hx2 rfl w.heap.size _ ns [(xo, yo)] rfl HSA.out.ow (some ⟨pb, 0, none⟩) 1 rfl HM.out (by have := hns.out; unfold maxLen; simp; omega) (by have := hns.out; simp; omega) (HSA.out.src.2.2.2.2.1) ?_
                intro v' y3 hown hgrow
                obtain ⟨wv2, wc2, hv2⟩ := d_shape hown
                subst hv2
                have m9 := Mut.of_grown' HSA.out.ow hgrow
                have b9 := m9.row HSA.out.box (by decide)
                have HS9 := Lib.hid (HSA.out.pushN' hgrow (by first | exact hown | (rw [nvs_snoc, List.length_append] at hown; exact hown) | (rw [nvs_snoc] at hown; exact hown)))
                refine hK.out _ _ ⟨⟨_, b9⟩, m9.own HSA.out.of (by decide)⟩ (fun hHeld9 => ?_)
                clear hK hown hgrow m9 HM HSA
                simp only [Act.put, List.setIfInBounds_toArray, List.set_cons_zero, List.set_cons_succ]
                refine take_call (i := 16) rfl (by kernel_rfl) (fun K2 hK => ?_)
                go_simp
                refine hK.out _ _ hHeld9 (fun hHeld10 => ?_)
                clear hK hHeld9
                obtain ⟨⟨p0, p1, p2⟩, q0, q1, q2⟩ := rowN3 b9
                have hgl := b9.lt
                refine take_call (i := 17) rfl (by kernel_rfl) (fun K2 hK => ?_)
                go_simp
                refine hK.out _ _ ⟨⟨_, HS9.out.box⟩, HS9.out.of⟩ (fun hHeld11 => ?_)
                clear hK hHeld10 hHeld11 p0 p1 p2 q0 q1 q2 hgl b9
                refine wpAnyH_done (by kernel_rfl) ?_ _
                go_wp2_with fail
                go_roundw
                case rel => exact ⟨i + 1, _, ns ++ [(xo, yo)], by omega, by go_num, by show _ ≤ _; rw [List.length_append]; have := hns.out; simp; omega, HS9⟩
                case measure => simp [intOf]; omega
              · go_simp
                obtain ⟨VA, hV9⟩ : ∃ V, V = Z.alloc (.cells #[.int .i64 (xo), .int .i64 yo] 36) := ⟨_, rfl⟩
                obtain ⟨pb, hpb⟩ : ∃ pb, pb = Z.heap.size := ⟨_, rfl⟩
                have HM : Hid (IsIn (some ⟨pb, 0, none⟩) (([(xo, yo)] : List Ln.Nt).length * 2) (Ln.fl [(xo, yo)]) VA) := by show IsIn _ _ _ _; rw [hV9, hpb]; exact one_in _ _ _ _
                have HSA : Hid (PdS w sb r g va bl (.slice (some ⟨gf, 0, none⟩) os.length fc) os (.slice wv ns.length wc) ns VA) := by show PdS _ _ _ _ _ _ _ _ _ _ _; rw [hV9]; exact HSD.out.bel (nbel_alloc _ _)
                rw [← hV9, ← hpb]
                clear hV9 hpb
                refine hK.out _ _ ⟨⟨_, HSA.out.box⟩, HSA.out.of⟩ (fun hHeld3 => ?_)
                clear hK hHeld HSD
                refine take_call (i := 1) rfl (by kernel_rfl) (fun K2 hK => ?_)
                obtain ⟨⟨p0, p1, p2⟩, _⟩ := rowN3 HSA.out.box
                go_simp
                refine hK.out _ _ hHeld3 (fun hHeld4 => ?_)
                clear hK hHeld3 hHeld4 p0 p1 p2
                refine take_call (i := 15) rfl (by kernel_rfl) (fun K2 hK => ?_)
                refine step_append_ns rfl _ _ 25 rfl 36 i2 (.agg #[.int .i64 0, .int .i64 0]) 16 Tryz.underlying25 hi2 hx0 hx1 hx2 rfl w.heap.size _ ns [(xo, yo)] rfl HSA.out.ow (some ⟨pb, 0, none⟩) 1 rfl HM.out (by have := hns.out; unfold maxLen; simp; omega) (by have := hns.out; simp; omega) (HSA.out.src.2.2.2.2.1) ?_
                intro v' y3 hown hgrow
                obtain ⟨wv2, wc2, hv2⟩ := d_shape hown
                subst hv2
                have m9 := Mut.of_grown' HSA.out.ow hgrow
                have b9 := m9.row HSA.out.box (by decide)
                have HS9 := Lib.hid (HSA.out.pushN' hgrow (by first | exact hown | (rw [nvs_snoc, List.length_append] at hown; exact hown) | (rw [nvs_snoc] at hown; exact hown)))
                refine hK.out _ _ ⟨⟨_, b9⟩, m9.own HSA.out.of (by decide)⟩ (fun hHeld9 => ?_)
                clear hK hown hgrow m9 HM HSA
                simp only [Act.put, List.setIfInBounds_toArray, List.set_cons_zero, List.set_cons_succ]
                refine take_call (i := 16) rfl (by kernel_rfl) (fun K2 hK => ?_)
                go_simp
                refine hK.out _ _ hHeld9 (fun hHeld10 => ?_)
                clear hK hHeld9
                obtain ⟨⟨p0, p1, p2⟩, q0, q1, q2⟩ := rowN3 b9
                have hgl := b9.lt
                refine take_call (i := 17) rfl (by kernel_rfl) (fun K2 hK => ?_)
                go_simp
                refine hK.out _ _ ⟨⟨_, HS9.out.box⟩, HS9.out.of⟩ (fun hHeld11 => ?_)
                clear hK hHeld10 hHeld11 p0 p1 p2 q0 q1 q2 hgl b9
                refine wpAnyH_done (by kernel_rfl) ?_ _
                go_wp2_with fail
                go_roundw
                case rel => exact ⟨i + 1, _, ns ++ [(xo, yo)], by omega, by go_num, by show _ ≤ _; rw [List.length_append]; have := hns.out; simp; omega, HS9⟩
                case measure => simp [intOf]; omega
          · have hltz9 : ¬ (i : Int) + 1 < (os.length : Int) := by omega
            go_wp2_with fail
            clear p0 p1 p2
            refine (one_any sb 12 _ hS.out.src.1 (by omega)).mono ?_
            rintro e w12 ⟨⟨q, rfl⟩, hD⟩
            replace hS := Lib.hid (hS.out.draw hD)
            clear hD
            have hlen9 : ns.length ≤ 103 := by have := hns.out; omega
            have hlb : bl.length = N := hL.out
            clear hns hL
            go_upto_if 108 with fail
            go_cut [8] from 109 to 162 (fun _ wx => ∃ (va : Value) (bl : List Pg.Bk) (vf : Value) (os : List Int) (vw : Value) (ns : List (Int × Int)), (bl.length ≤ 102 ∧ os.length ≤ 103 ∧ ns.length ≤ 104) ∧ Hid (PdS w sb r g va bl vf os vw ns wx))
            case first =>
              cases q with
              | false =>
                go_wp2_with fail
                go_meet
                case rel => exact ⟨_, _, _, _, _, _, by omega, hS⟩
              | true =>
                obtain ⟨ga, ca, hva⟩ := own_at hS.out.oa (by omega)
                subst hva
                obtain ⟨wv, wcc, hvw⟩ := d_shape hS.out.ow
                subst hvw
                go_wp2_with fail
                refine wp_region_held_drew (S := PdS w sb r g (.slice (some ⟨ga, 0, none⟩) bl.length ca) bl (.slice fv os.length fc) os (.slice wv ns.length wcc) ns) (by kernel_rfl) (hS.out.bel (Below.refl _ _).drew) (fun hHeld => ?_)
                clear hS
                refine take_do (i := 0) (v := (.pointer (some ⟨g, 0, none⟩))) rfl (by kernel_rfl) (by kernel_rfl) (by kernel_rfl) (fun _ _ _ h => h) (by rfl) ?_ (by assumption) ?_
                · intro w hSw
                  go_simp
                simp only [Act.put, List.setIfInBounds_toArray, List.set_cons_zero, List.set_cons_succ]
                refine take_do (i := 1) (v := (.slice (some ⟨ga, 0, none⟩) bl.length ca)) rfl (by kernel_rfl) (by kernel_rfl) (by kernel_rfl) (fun _ _ _ h => h) (by rfl) ?_ (by assumption) ?_
                · intro w hSw
                  obtain ⟨⟨p0, p1, p2⟩, _⟩ := rowN3 hSw.box
                  go_simp
                simp only [Act.put, List.setIfInBounds_toArray, List.set_cons_zero, List.set_cons_succ]
                refine take_do (i := 2) (v := (.pointer (some ⟨sb, 0, none⟩))) rfl (by kernel_rfl) (by kernel_rfl) (by kernel_rfl) (fun _ _ _ h => h) (by rfl) ?_ (by assumption) ?_
                · intro w hSw
                  go_simp
                simp only [Act.put, List.setIfInBounds_toArray, List.set_cons_zero, List.set_cons_succ]
                refine take_do (i := 3) (v := (.int .i64 N)) rfl (by kernel_rfl) (by kernel_rfl) (by kernel_rfl) (fun _ _ _ h => h) (by rfl) ?_ (by assumption) ?_
                · intro w hSw
                  go_simp
                simp only [Act.put, List.setIfInBounds_toArray, List.set_cons_zero, List.set_cons_succ]
                refine take_call (i := 4) rfl (by kernel_rfl) (fun K2 hK => ?_)
                go_simp
                refine (n_any sb (N : Int) _ hHeld.src.1 (by omega)).mono ?_
                rintro e w13 ⟨⟨u, rfl, ua, ub, uc⟩, hD⟩
                have ud : u < N := by
                  by_cases q : (1 : Int) < N
                  · exact ub q
                  · have := uc (by omega); omega
                have hHeld2 := hHeld.draw hD
                clear hHeld hD ub uc
                obtain ⟨k, rfl⟩ : ∃ k : Nat, u = (k : Int) := ⟨u.toNat, by omega⟩
                have hkb : k < bl.length := by omega
                have hkz : (k : Int) < (bl.length : Int) := by omega
                obtain ⟨x, hxk⟩ : ∃ x, bl[k]? = some x := ⟨_, List.getElem?_eq_getElem hkb⟩
                have hxn : x.name.size ≤ 64 := hHeld2.nm x (List.mem_of_getElem? hxk)
                go_wp2_with fail
                refine hK.out _ _ hHeld2 (fun hHeld => ?_)
                clear hK hHeld2
                refine take_do (i := 5) (v := (.pointer (some ⟨ga, k * 4, none⟩))) rfl (by kernel_rfl) (by kernel_rfl) (by kernel_rfl) (fun _ _ _ h => h) (by rfl) ?_ (by assumption) ?_
                · intro w hSw
                  go_simp
                simp only [Act.put, List.setIfInBounds_toArray, List.set_cons_zero, List.set_cons_succ]
                refine take_do (i := 6) (v := (.pointer (some ⟨ga, k * 4, none⟩))) rfl (by kernel_rfl) (by kernel_rfl) (by kernel_rfl) (fun _ _ _ h => h) (by rfl) ?_ (by assumption) ?_
                · intro w hSw
                  go_simp
                simp only [Act.put, List.setIfInBounds_toArray, List.set_cons_zero, List.set_cons_succ]
                refine wpAnyH_done (by kernel_rfl) ?_ _
                have hS := Lib.hid hHeld
                clear hHeld
                go_wp2_with fail
                refine (n_any sb 6 _ hS.out.src.1 (by omega)).mono ?_
                rintro e w14 ⟨⟨j, rfl, ja, jb, _⟩, hD⟩
                have jd := jb (by omega)
                replace hS := Lib.hid (hS.out.draw hD)
                clear hD jb
                have HXK := Lib.hid hxk
                rcases (show j = 0 ∨ j = 1 ∨ j = 2 ∨ j = 3 ∨ j = 4 ∨ j = 5 by omega) with rfl | rfl | rfl | rfl | rfl | rfl
                · clear ja jd
                  go_wp2_with fail
                  obtain ⟨V, hV⟩ : ∃ V, V = w14.alloc (.cells #[.string ⟨#[105, 110]⟩, .string ⟨#[110, 101, 118, 101, 114]⟩, .string ⟨#[97, 48]⟩, .string ⟨#[65]⟩, .string ⟨#[]⟩, .string ⟨#[112, 114, 101, 118]⟩] 9) := ⟨_, rfl⟩
                  obtain ⟨pb, hpb⟩ : ∃ pb, pb = w14.heap.size := ⟨_, rfl⟩
                  have hrw : V.rowIs pb 9 6 (rowN [.string ⟨#[105, 110]⟩, .string ⟨#[110, 101, 118, 101, 114]⟩, .string ⟨#[97, 48]⟩, .string ⟨#[65]⟩, .string ⟨#[]⟩, .string ⟨#[112, 114, 101, 118]⟩]) := by rw [hV, hpb]; exact rowN_alloc w14 [.string ⟨#[105, 110]⟩, .string ⟨#[110, 101, 118, 101, 114]⟩, .string ⟨#[97, 48]⟩, .string ⟨#[65]⟩, .string ⟨#[]⟩, .string ⟨#[112, 114, 101, 118]⟩] _
                  have hpn : pb ≠ sb := by have := hS.out.src.1.lt; omega
                  replace hS : Hid (PdS w sb r g (.slice (some ⟨ga, 0, none⟩) bl.length ca) bl (.slice fv os.length fc) os (.slice wv ns.length wcc) ns V) := by show PdS _ _ _ _ _ _ _ _ _ _ _; rw [hV]; exact hS.out.bel (nbel_alloc _ _)
                  rw [← hV, ← hpb]
                  clear hV hpb
                  obtain ⟨⟨d0, d1, d2, d3, d4, d5⟩, _⟩ := rowN6 hrw
                  refine (pdpick_any sb pb 6 6 (by omega) (by omega) _ hS.out.src.1 hpn (fun i hi => by
                    rcases (show i = 0 ∨ i = 1 ∨ i = 2 ∨ i = 3 ∨ i = 4 ∨ i = 5 by omega) with rfl | rfl | rfl | rfl | rfl | rfl
                    · exact ⟨_, d0, by decide⟩
                    · exact ⟨_, d1, by decide⟩
                    · exact ⟨_, d2, by decide⟩
                    · exact ⟨_, d3, by decide⟩
                    · exact ⟨_, d4, by decide⟩
                    · exact ⟨_, d5, by decide⟩)).mono ?_
                  rintro e w15 ⟨⟨nm, rfl, hnm⟩, hD⟩
                  replace hS := Lib.hid (hS.out.draw hD)
                  clear hD d0 d1 d2 d3 d4 d5 hrw
                  obtain ⟨o1, o2, FF, o3⟩ := own_row hS.out.oa
                  have y0 := o3.cell (i := k * 4 + 1) (by omega)
                  have y1 := o3.frozen (k * 4 + 1)
                  have y2 := o3.lt
                  have HSE := Lib.hid (hS.out.setE (x' := ⟨x.kind, nm, x.a, x.b⟩) 1 (by omega) (.string nm) hxk rfl hnm)
                  clear o1 o2 o3
                  go_wp2_with fail
                  go_meet
                  case rel => exact ⟨_, _, _, _, _, _, by rw [List.length_set]; omega, HSE⟩
                · clear ja jd
                  go_wp2_with fail
                  refine (n_any sb 103 _ hS.out.src.1 (by omega)).mono ?_
                  rintro e w15 ⟨⟨y, rfl, _, _, _⟩, hD⟩
                  replace hS := Lib.hid (hS.out.draw hD)
                  clear hD
                  obtain ⟨o1, o2, FF, o3⟩ := own_row hS.out.oa
                  have y0 := o3.cell (i := k * 4 + 3) (by omega)
                  have y1 := o3.frozen (k * 4 + 3)
                  have y2 := o3.lt
                  have HSE := Lib.hid (hS.out.setE (x' := ⟨x.kind, x.name, x.a, y⟩) 3 (by omega) (.int .i64 y) hxk rfl (hxn))
                  clear o1 o2 o3
                  go_wp2_with fail
                  go_meet
                  case rel => exact ⟨_, _, _, _, _, _, by rw [List.length_set]; omega, HSE⟩
                · clear ja jd
                  go_wp2_with fail
                  refine (n_any sb ((N : Int) + 2) _ hS.out.src.1 (by omega)).mono ?_
                  rintro e w15 ⟨⟨y, rfl, ya, yb, _⟩, hD⟩
                  have yd := yb (by omega)
                  replace hS := Lib.hid (hS.out.draw hD)
                  clear hD yb
                  obtain ⟨o1, o2, FF, o3⟩ := own_row hS.out.oa
                  have y0 := o3.cell (i := k * 4 + 2) (by omega)
                  have y1 := o3.frozen (k * 4 + 2)
                  have y2 := o3.lt
                  have HSE := Lib.hid (hS.out.setE (x' := ⟨x.kind, x.name, y - 1, x.b⟩) 2 (by omega) (.int .i64 (y - 1)) hxk rfl (hxn))
                  clear o1 o2 o3
                  go_wp2_with fail
                  go_meet
                  case rel => exact ⟨_, _, _, _, _, _, by rw [List.length_set]; omega, HSE⟩
                · clear ja jd
                  go_wp2_with fail
                  refine (n_any sb 9 _ hS.out.src.1 (by omega)).mono ?_
                  rintro e w15 ⟨⟨y, rfl, _, _, _⟩, hD⟩
                  replace hS := Lib.hid (hS.out.draw hD)
                  clear hD
                  obtain ⟨o1, o2, FF, o3⟩ := own_row hS.out.oa
                  have y0 := o3.cell (i := k * 4) (by omega)
                  have y1 := o3.frozen (k * 4)
                  have y2 := o3.lt
                  have HSE := Lib.hid (hS.out.setE (x' := ⟨y, x.name, x.a, x.b⟩) 0 (by omega) (.int .i64 y) hxk rfl (hxn))
                  clear o1 o2 o3
                  go_wp2_with fail
                  go_meet
                  case rel => exact ⟨_, _, _, _, _, _, by rw [List.length_set]; omega, HSE⟩
                · clear ja jd
                  obtain ⟨hi1, hy0, hy1, hy2⟩ := HI1.out
                  obtain ⟨⟨p0, p1, p2⟩, _⟩ := rowN3 hS.out.box
                  have hso : os.length ≤ 101 := by omega
                  go_wp2_with (at_builtin; refine wpList_append_own _ rfl _ _ 24 rfl w.heap.size 2 i1 _ 1 8 Tryz.underlying24 hi1 hy0 hy1 hy2 rfl (by decide) _ _ _ rfl (hS.out.of.alloc _) ⟨w14.heap.size, 0, none⟩ 1 1 [.int .i64 (N : Nat)] rfl rfl ?c1 ?c2 ?c3 ?c4 ?c5 ?_)
                  case c1 =>
                    intro j u hj
                    match j, hj with
                    | 0, hj => (simp at hj; subst hj; simp [Addr.add])
                  case c2 =>
                    intro u hu
                    simp at hu
                    subst hu
                    rfl
                  case c3 => unfold maxLen; omega
                  case c4 => omega
                  case c5 => have := hS.out.src.2.2.2.2.1; simp; omega
                  intro v' w15 hown hgrow hnil
                  obtain ⟨av2, cv2, hv2⟩ := d_shape hown
                  subst hv2
                  have HSE := Lib.hid (hS.out.pushF hgrow hown)
                  have m9 := Mut.of_grown hS.out.of hgrow
                  clear p0 p1 p2 hnil hi1 hy0 hy1 hy2
                  have b9 := m9.row hS.out.box (by decide)
                  obtain ⟨⟨p0, p1, p2⟩, q0, q1, q2⟩ := rowN3 b9
                  have hgl := b9.lt
                  clear hown hgrow m9 b9 hS
                  go_wp2_with fail
                  go_meet
                  case rel => exact ⟨_, _, _, _, _, _, by rw [List.length_append]; simp; omega, HSE⟩
                · clear ja jd
                  obtain ⟨hi2, hx0, hx1, hx2⟩ := HI2.out
                  obtain ⟨⟨p0, p1, p2⟩, _⟩ := rowN3 hS.out.box
                  have HM := Lib.hid (one_in w14 36 0 1)
                  have HSA := Lib.hid (hS.out.bel (nbel_alloc w14 (.cells #[.int .i64 0, .int .i64 1] 36)))
                  go_wp2_with (at_builtin; refine wpList_append_ns (l := ns) (m := [(0, 1)]) rfl _ _ 25 rfl 36 i2 (.agg #[.int .i64 0, .int .i64 0]) 16 Tryz.underlying25 hi2 hx0 hx1 hx2 rfl w.heap.size _ rfl HSA.out.ow (some ⟨w14.heap.size, 0, none⟩) 1 rfl HM.out (by unfold maxLen; simp; omega) (by simp; omega) (HSA.out.src.2.2.2.2.1) ?_)
                  intro v' w15 hown hgrow
                  obtain ⟨av2, cv2, hv2⟩ := d_shape hown
                  subst hv2
                  have HSE := Lib.hid (HSA.out.pushN' hgrow (by first | exact hown | (rw [nvs_snoc, List.length_append] at hown; exact hown) | (rw [nvs_snoc] at hown; exact hown)))
                  have m9 := Mut.of_grown' HSA.out.ow hgrow
                  clear p0 p1 p2 hi2 hx0 hx1 hx2 HM
                  have b9 := m9.row HSA.out.box (by decide)
                  obtain ⟨⟨p0, p1, p2⟩, q0, q1, q2⟩ := rowN3 b9
                  have hgl := b9.lt
                  clear hown hgrow m9 b9 HSA hS
                  go_wp2_with fail
                  go_meet
                  case rel => exact ⟨_, _, _, _, _, _, by rw [List.length_append]; simp; omega, HSE⟩
            case rest =>
              clear hS
              obtain ⟨va2, bl2, vf2, os2, vw2, ns2, hlen, hS⟩ := hcut
              obtain ⟨V20, hV20⟩ : ∃ w', w' = wc := ⟨_, rfl⟩
              rw [← hV20] at hS ⊢
              clear hV20
              obtain ⟨aa, ac, haa⟩ := d_shape hS.out.oa
              obtain ⟨af, cf, haf⟩ := d_shape hS.out.of
              obtain ⟨aw, cw, haw⟩ := d_shape hS.out.ow
              subst haa haf haw
              obtain ⟨⟨p0, p1, p2⟩, _⟩ := rowN3 hS.out.box
              obtain ⟨⟨r0, r1, r2⟩, z0, z1, z2⟩ := rowN3 hS.out.res
              have hgl := hS.out.box.lt
              have hrl := hS.out.res.lt
              have lo := hS.out.lo
              have m1 := Mut.of_set (B := w.heap.size) (i := 0) hS.out.res lo.2.1 (.slice aa bl2.length ac)
              have e1 := rowN_put hS.out.res 0 (.slice aa bl2.length ac) (by simp)
              have m2 := Mut.of_set (B := w.heap.size) (i := 1) e1 lo.2.1 (.slice af os2.length cf)
              have e2 := rowN_put e1 1 (.slice af os2.length cf) (by simp)
              have m3 := Mut.of_set (B := w.heap.size) (i := 2) e2 lo.2.1 (.slice aw ns2.length cw)
              have e3 := rowN_put e2 2 (.slice aw ns2.length cw) (by simp)
              have HO : Hid (PdO w.heap.size (.slice aa bl2.length ac) bl2 (.slice af os2.length cf) os2 (.slice aw ns2.length cw) ns2 (((V20.setCell ⟨r, 0, none⟩ (.slice aa bl2.length ac)).setCell ⟨r, 1, none⟩ (.slice af os2.length cf)).setCell ⟨r, 2, none⟩ (.slice aw ns2.length cw))) :=
                ⟨m3.own (m2.own (m1.own hS.out.oa (by decide)) (by decide)) (by decide), m3.own (m2.own (m1.own hS.out.of (by decide)) (by decide)) (by decide), m3.own (m2.own (m1.own hS.out.ow (by decide)) (by decide)) (by decide), hS.out.nm, hlen⟩
              have HD : Hid (Drew sb w (((V20.setCell ⟨r, 0, none⟩ (.slice aa bl2.length ac)).setCell ⟨r, 1, none⟩ (.slice af os2.length cf)).setCell ⟨r, 2, none⟩ (.slice aw ns2.length cw))) := m3.src (m2.src (m1.src hS.out.src lo.1 (Nat.le_refl _)) lo.1 (Nat.le_refl _)) lo.1 (Nat.le_refl _)
              have HE := Lib.hid e3
              clear m1 m2 m3 e1 e2 e3 lo hS
              go_wp2_with fail
              obtain ⟨⟨t0, t1, t2⟩, _⟩ := rowN3 HE.out
              exact bodyPost_ret (v := .agg #[.slice aa bl2.length ac, .slice af os2.length cf, .slice aw ns2.length cw]) (by simp only [results, Tryz.results37]; simp [go_sem, t0, t1, t2]) rfl ⟨⟨_, _, _, _, _, _, rfl, HO.out⟩, HD.out⟩
end Go.Proofs.YtogfjomfhenhfaaGreatDoor
