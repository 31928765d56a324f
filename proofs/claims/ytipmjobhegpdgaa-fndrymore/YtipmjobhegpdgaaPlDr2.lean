/-
  The draw of a set of rows.
-/
import Derived.Test.YtipmjobhegpdgaaPlDr1
namespace Go.Proofs.Ytipmjobhegpdgaa
open Go Go.RowKit Go.Deep

/-- The plan's memory is not the source's. -/
def PlOff (sb : Nat) (la fa wa : Option Addr) : Prop := (∀ b, la = some ⟨b, 0, none⟩ → b ≠ sb) ∧ (∀ b, fa = some ⟨b, 0, none⟩ → b ≠ sb) ∧ ∀ b, wa = some ⟨b, 0, none⟩ → b ≠ sb
theorem PlAt.chg {n : Pl.Plan} {la fa wa : Option Addr} {sb : Nat} {w w' : World} (h : PlAt n la fa wa w) (ho : PlOff sb la fa wa) (hc : Chg sb w w') : PlAt n la fa wa w' :=
  ⟨h.l.same (fun b e hb => hc.2.2.2.2 b hb (ho.1 b e)), h.f.same (fun b e hb => hc.2.2.2.2 b hb (ho.2.1 b e)), h.w.same (fun b e hb => hc.2.2.2.2 b hb (ho.2.2 b e))⟩
theorem row_chg {w w' : World} {sb g : Nat} {t : TypeId} {m : Nat} {F : Nat → Value} (h : w.rowIs g t m F) (hne : g ≠ sb) (hc : Chg sb w w') : w'.rowIs g t m F := h.of_block (hc.2.2.2.2 _ h.lt hne)
theorem shut_field (a : Option Addr) (k c : Nat) (h d : Int) (w : World) : (Instr.field 90 (.agg #[.slice a k c, .int .i64 h, .int .i64 d]) 0).run Try.prog w = .ok (.slice a k c) w := by kernel_rfl
/-- What lasts: the source, and the copy of the plan. -/
def ShS (sb : Nat) (W0 : World) (g : Nat) (l : List Value) (V : World) : Prop := Drew sb W0 V ∧ V.rowIs g 26 3 (rowN l)
theorem ShS.below {sb g : Nat} {W0 V V' : World} {l : List Value} (h : ShS sb W0 g l V) (hb : Below V.heap.size V V') : ShS sb W0 g l V' := ⟨⟨h.1.1.below hb, h.1.2.trans (Chg.of_below hb)⟩, nrow_below h.2 hb⟩
theorem ShS.draw {sb g : Nat} {W0 V V' : World} {l : List Value} (h : ShS sb W0 g l V) (hne : g ≠ sb) (hd : Drew sb V V') : ShS sb W0 g l V' := ⟨⟨hd.1, h.1.2.trans hd.2⟩, row_chg h.2 hne hd.2⟩
theorem Fl.lrows_len {n : Pl.Plan} {place : Int} : (Fl.lrows n place).length ≤ n.rn := by
  unfold Fl.lrows
  split
  · exact Fl.abTo_len
  · simp
set_option maxRecDepth 100000 in
set_option maxHeartbeats 2000000 in
theorem dshut_any (sb : Nat) (n : Pl.Plan) (la : Option Addr) (lk : Nat) (fa : Option Addr) (fk : Nat) (wa : Option Addr) (wk : Nat) (w : World) (hS : Src sb w) (h : PlAt n la fa wa w) (ho : PlOff sb la fa wa) (hs : PlSmall n) (hrn : n.rn ≤ 1000) (hhn : n.hn ≤ 1000) :
    Calls Try.prog 37 #[.pointer (some ⟨sb, 0, none⟩), plV n la lk fa fk wa wk] w fun e w' => ∃ v, e = .returned v ∧ (∃ zs : List Int, zs.length ≤ 1000 ∧ w'.ownsRow w.heap.size 2 1 v zs.length (zs.map (Value.int .i64))) ∧ Drew sb w w' := by
  obtain ⟨W0, hW⟩ : ∃ W, W = w.alloc (.cells #[.slice la n.rn lk, .slice fa n.sn fk, .slice wa n.hn wk] 26) := ⟨_, rfl⟩
  have hb : Below w.heap.size w W0 := by rw [hW]; exact nbel_alloc _ _
  have HB := Lib.hid hb
  have HR : Hid (W0.rowIs w.heap.size 26 3 (rowN (plL n la lk fa fk wa wk))) := by show World.rowIs _ _ _ _ _; rw [hW]; exact rowN_alloc w _ _
  have HSR := Lib.hid (hS.below hb)
  have hsb := hS.lt
  have H := Lib.hid (h.below hb)
  have HO := Lib.hid ho
  have HS := Lib.hid hs
  have HW := Lib.hid hW
  have HSZ : Hid (W0.heap.size = w.heap.size + 1) := by show W0.heap.size = _; rw [hW]; simp
  have hne : w.heap.size ≠ sb := by omega
  obtain ⟨i0, hi, hz0, hz1, hz2⟩ := info_parts yinfo_i64
  have HPI := Lib.hid (And.intro hi (And.intro hz0 (And.intro hz1 hz2)))
  clear hW h hs hS ho hb hi hz0 hz1 hz2
  go_enter Try.func37, Try.ntmps37
  go_wp2_with fail
  rw [← HW.out]
  refine (one_any sb 3 _ HSR.out (by omega)).mono ?_
  rintro e w1 ⟨⟨bb, rfl⟩, hD⟩
  have HD1 := Lib.hid hD
  have HR1 := Lib.hid (row_chg HR.out hne hD.2)
  clear hD HW HR HSR
  obtain ⟨⟨p0, p1, p2⟩, _⟩ := rowN3 HR1.out
  cases bb with
  | true =>
    have HS1 : Hid (ShS sb W0 w.heap.size (plL n la lk fa fk wa wk) w1) := ⟨HD1.out, HR1.out⟩
    clear HD1 HR1
    go_wp2_with fail
    refine wp_region_held_drew (S := ShS sb W0 w.heap.size (plL n la lk fa fk wa wk)) (by kernel_rfl) (HS1.out.below (Below.refl _ _).drew) (fun hHeld => ?_)
    obtain ⟨Z, hZ⟩ : ∃ Z, Z = w1.drew := ⟨_, rfl⟩
    rw [← hZ] at hHeld ⊢
    clear hZ
    refine take_do (i := 0) (v := (plV n la lk fa fk wa wk)) rfl (by kernel_rfl) (by kernel_rfl) (by kernel_rfl) (fun _ _ _ h => h) (by rfl) ?_ (by assumption) ?_
    · intro w hSw
      obtain ⟨⟨a0, a1, a2⟩, _⟩ := rowN3 hSw.2
      go_simp
    simp only [Act.put, List.setIfInBounds_toArray, List.set_cons_zero, List.set_cons_succ]
    refine take_do (i := 1) (v := (.pointer (some ⟨sb, 0, none⟩))) rfl (by kernel_rfl) (by kernel_rfl) (by kernel_rfl) (fun _ _ _ h => h) (by rfl) ?_ (by assumption) ?_
    · intro w hSw
      skip
      go_simp
    simp only [Act.put, List.setIfInBounds_toArray, List.set_cons_zero, List.set_cons_succ]
    refine take_do (i := 2) (v := (.pointer (some ⟨w.heap.size, 2, none⟩))) rfl (by kernel_rfl) (by kernel_rfl) (by kernel_rfl) (fun _ _ _ h => h) (by rfl) ?_ (by assumption) ?_
    · intro w hSw
      skip
      go_simp
    simp only [Act.put, List.setIfInBounds_toArray, List.set_cons_zero, List.set_cons_succ]
    refine take_do (i := 3) (v := (.slice wa n.hn wk)) rfl (by kernel_rfl) (by kernel_rfl) (by kernel_rfl) (fun _ _ _ h => h) (by rfl) ?_ (by assumption) ?_
    · intro w hSw
      obtain ⟨⟨a0, a1, a2⟩, _⟩ := rowN3 hSw.2
      go_simp
    simp only [Act.put, List.setIfInBounds_toArray, List.set_cons_zero, List.set_cons_succ]
    refine take_do (i := 4) (v := (.int .i64 (n.hn : Nat))) rfl (by kernel_rfl) (by kernel_rfl) (by kernel_rfl) (fun _ _ _ h => h) (by rfl) ?_ (by assumption) ?_
    · intro w hSw
      skip
      go_simp
    simp only [Act.put, List.setIfInBounds_toArray, List.set_cons_zero, List.set_cons_succ]
    refine take_call (i := 5) rfl (by kernel_rfl) (fun K2 hK => ?_)
    go_simp
    refine (n_any sb _ _ hHeld.1.1 (by omega)).mono ?_
    rintro e Z1 ⟨⟨pv, rfl, _, _, _⟩, hD⟩
    go_wp2_with fail
    refine hK.out _ _ (hHeld.draw hne hD) (fun hHeld2 => ?_)
    clear hK hHeld hD
    have hHeld := hHeld2
    clear hHeld2
    refine take_call (i := 6) rfl (by kernel_rfl) (fun K2 hK => ?_)
    go_simp
    refine (specLeast_any n la lk fa fk wa wk pv _ (H.out.chg HO.out hHeld.1.2) HS.out).mono ?_
    rintro e Z2 ⟨⟨rv, rfl, hO⟩, hb⟩
    have HOW : Hid (Z2.ownsRow w.heap.size 2 1 rv (Fl.lrows n pv).length (numsV (Fl.lrows n pv))) := own_low hO (by have := hHeld.1.2.size; have := HSZ.out; omega)
    obtain ⟨ra, rc, e, _⟩ := own_at hO
    subst e
    go_wp2_with fail
    refine hK.out _ _ (hHeld.below hb) (fun hHeld2 => ?_)
    clear hK hHeld hb hO
    have hHeld := hHeld2
    clear hHeld2
    refine take_do (i := 7) (v := (.slice ra (Fl.lrows n pv).length rc)) rfl (by kernel_rfl) (by kernel_rfl) (by kernel_rfl) (fun _ _ _ h => h) (by rfl) ?_ (by assumption) ?_
    · intro w hSw
      have hfld := shut_field ra (Fl.lrows n pv).length rc (Fl.lhomes n pv) (Fl.lcode n pv) w
      go_simp
    simp only [Act.put, List.setIfInBounds_toArray, List.set_cons_zero, List.set_cons_succ]
    refine take_do (i := 8) (v := (.slice ra (Fl.lrows n pv).length rc)) rfl (by kernel_rfl) (by kernel_rfl) (by kernel_rfl) (fun _ _ _ h => h) (by rfl) ?_ (by assumption) ?_
    · intro w hSw
      skip
      go_simp
    simp only [Act.put, List.setIfInBounds_toArray, List.set_cons_zero, List.set_cons_succ]
    refine wpAnyH_done (by kernel_rfl) ?_ _
    have HDD : Hid (Drew sb w Z2) := ⟨hHeld.1.1, (Chg.of_below HB.out).trans hHeld.1.2⟩
    clear hHeld
    go_wp2_with fail
    go_ret
    exact ⟨_, rfl, ⟨(Fl.lrows n pv).map (fun x : Nat => (x : Int)), by rw [List.length_map]; exact Nat.le_trans Fl.lrows_len hrn, by rw [List.length_map, List.map_map]; exact HOW.out⟩, HDD.out⟩
  | false =>
    have HDL : Hid (DL w1 sb (.slice (some ⟨w1.heap.size, 0, none⟩) 0 0) [] (w1.alloc (.cells #[] 2))) := dl_start HD1.out.1
    have HRA : Hid ((w1.alloc (.cells #[] 2)).rowIs w.heap.size 26 3 (rowN (plL n la lk fa fk wa wk))) := nrow_below HR1.out (nbel_alloc _ _)
    go_wp2_with fail
    clear p0 p1 p2
    go_loopw [5, 6] (fun ov iv wr => ∃ (i : Nat) (zs : List Int) (a : Option Addr) (c : Nat), i ≤ n.rn ∧ iv = .int .i64 i ∧ ov = .slice a zs.length c ∧ Hid (zs.length ≤ i) ∧ Hid (DL w1 sb (.slice a zs.length c) zs wr)) (fun _ iv _ => n.rn - (intOf iv).toNat)
    case atStart => exact ⟨0, [], _, _, Nat.zero_le _, rfl, rfl, by show _ ≤ _; simp, HDL⟩
    case round =>
      obtain ⟨i, zs, a, c, hi, rfl, rfl, hz, hF⟩ := hrel
      clear HDL HRA
      have hrw := row_chg HR1.out hne hF.out.2.1.2
      obtain ⟨⟨p0, p1, p2⟩, _⟩ := rowN3 hrw
      by_cases hlt : i < n.rn
      · have hltz : (i : Int) < (n.rn : Int) := by omega
        clear hrw
        go_wp2_with fail
        refine (one_any sb 3 _ hF.out.2.1.1 (by omega)).mono ?_
        rintro e w2 ⟨⟨bb, rfl⟩, hD⟩
        have HF1 : Hid (DL w1 sb (.slice a zs.length c) zs w2) := hF.out.draw hD
        clear hD hF p0 p1 p2
        cases bb with
        | false =>
          go_wp2_with fail
          go_roundw
          case rel => exact ⟨i + 1, zs, a, c, by omega, by go_num, rfl, Nat.le_succ_of_le hz.out, HF1⟩
          case measure => simp [intOf]; omega
        | true =>
          obtain ⟨⟨p0, p1, p2⟩, _⟩ := rowN3 (row_chg HR1.out hne HF1.out.2.1.2)
          obtain ⟨b, e, c0, c1, c2⟩ := ((H.out.chg HO.out HD1.out.2).chg HO.out HF1.out.2.1.2).l.at3 hlt
          subst e
          obtain ⟨hi0, hz0, hz1, hz2⟩ := HPI.out
          cases hv : n.R (i * 3 + 2) == 1 with
          | true =>
            go_wp2_with (at_builtin; refine wpList_append_own _ rfl _ _ 24 rfl w1.heap.size 2 i0 (.int .i64 0) 1 8 Try.underlying24 hi0 hz0 hz1 hz2 rfl (by decide) _ _ _ rfl (HF1.out.1.alloc _) ⟨w2.heap.size, 0, none⟩ 1 1 [.int .i64 (i : Nat)] rfl rfl ?c1 ?c2 ?c3 ?c4 ?c5 ?_)
            try (case c1 => (intro j u hj; match j, hj with
              | 0, hj => (simp at hj; subst hj; simp [Addr.add])))
            try (case c2 => first | rfl | (intro u hu; simp at hu; subst hu; rfl))
            try (case c3 => (have := hz.out; unfold maxLen; omega))
            try (case c4 => (have := hz.out; omega))
            try (case c5 => (have := HF1.out.2.1.2.size; first | omega | (simp; omega)))
            intro v' w5 hown hgrow hnil
            have HF5 : Hid (DL w1 sb v' (zs ++ [(i : Int)]) w5) := HF1.out.push hgrow hown
            obtain ⟨a5, k5, rfl⟩ := d_shape HF5.out.1
            clear hown hgrow hnil HF1
            go_wp2_with fail
            go_roundw
            case rel => exact ⟨i + 1, zs ++ [(i : Int)], a5, k5, by omega, by go_num, rfl, by show _ ≤ _; have := hz.out; simp; omega, HF5⟩
            case measure => simp [intOf]; omega
          | false =>
            go_wp2_with fail
            refine (one_any sb 30 _ HF1.out.2.1.1 (by omega)).mono ?_
            rintro e w3 ⟨⟨bb, rfl⟩, hD⟩
            have HF2 : Hid (DL w1 sb (.slice a zs.length c) zs w3) := HF1.out.draw hD
            clear hD HF1 p0 p1 p2 c0 c1 c2
            cases bb with
            | false =>
              go_wp2_with fail
              go_roundw
              case rel => exact ⟨i + 1, zs, a, c, by omega, by go_num, rfl, Nat.le_succ_of_le hz.out, HF2⟩
              case measure => simp [intOf]; omega
            | true =>
              go_wp2_with (at_builtin; refine wpList_append_own _ rfl _ _ 24 rfl w1.heap.size 2 i0 (.int .i64 0) 1 8 Try.underlying24 hi0 hz0 hz1 hz2 rfl (by decide) _ _ _ rfl (HF2.out.1.alloc _) ⟨w3.heap.size, 0, none⟩ 1 1 [.int .i64 (i : Nat)] rfl rfl ?c1 ?c2 ?c3 ?c4 ?c5 ?_)
              try (case c1 => (intro j u hj; match j, hj with
                | 0, hj => (simp at hj; subst hj; simp [Addr.add])))
              try (case c2 => first | rfl | (intro u hu; simp at hu; subst hu; rfl))
              try (case c3 => (have := hz.out; unfold maxLen; omega))
              try (case c4 => (have := hz.out; omega))
              try (case c5 => (have := HF2.out.2.1.2.size; first | omega | (simp; omega)))
              intro v' w5 hown hgrow hnil
              have HF5 : Hid (DL w1 sb v' (zs ++ [(i : Int)]) w5) := HF2.out.push hgrow hown
              obtain ⟨a5, k5, rfl⟩ := d_shape HF5.out.1
              clear hown hgrow hnil HF2
              go_wp2_with fail
              go_roundw
              case rel => exact ⟨i + 1, zs ++ [(i : Int)], a5, k5, by omega, by go_num, rfl, by show _ ≤ _; have := hz.out; simp; omega, HF5⟩
              case measure => simp [intOf]; omega
      · obtain rfl : i = n.rn := by omega
        have HDD : Hid (Drew sb w wr) := ⟨hF.out.2.1.1, ((Chg.of_below HB.out).trans HD1.out.2).trans hF.out.2.1.2⟩
        have HOW := Lib.hid (own_low hF.out.1 (show w.heap.size ≤ w1.heap.size by have := HD1.out.2.size; have := HSZ.out; omega))
        go_wp2_with fail
        go_ret
        exact ⟨_, rfl, ⟨zs, by have := hz.out; omega, HOW.out⟩, HDD.out⟩
end Go.Proofs.Ytipmjobhegpdgaa
