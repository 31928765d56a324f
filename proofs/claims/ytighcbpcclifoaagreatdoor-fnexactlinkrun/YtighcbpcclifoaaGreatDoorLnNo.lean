/-
  The note that a frame carries, as the program finds it.
-/
import Derived.Test.YtighcbpcclifoaaGreatDoorLnSd
import Derived.Test.YtighcbpcclifoaaGreatDoorShelfB
import Derived.Test.YtighcbpcclifoaaGreatDoorReadNum
import Derived.Test.YtighcbpcclifoaaGreatDoorEt
import Derived.Deep.RegionHeld3
namespace Go.Proofs.YtighcbpcclifoaaGreatDoor
open Go.RowKit Go.Deep

/-- What is asked of the library's variables. -/
structure LnG (w : World) : Prop where
  syn : ∃ te pe, w.cell? ⟨4, 0, none⟩ = some (.iface te pe)
  rng : ∃ te pe, w.cell? ⟨5, 0, none⟩ = some (.iface te pe)
  tab : TabOk w
  typ : Et w
theorem LnG.below {w w' : World} (h : LnG w) (hb : Below w.heap.size w w') : LnG w' where
  syn := h.syn.imp fun _ k => k.imp fun _ k => (hb.cell (World.block_lt_of_cell? _ _ k)).trans k
  rng := h.rng.imp fun _ k => k.imp fun _ k => (hb.cell (World.block_lt_of_cell? _ _ k)).trans k
  tab := lntab h.tab hb
  typ := h.typ.below hb
/-- What ParseInt tells of a text. -/
def PiEnd (l : List UInt8) (e : Ending) : Prop := (∃ v : Int, Lib.parseIntB 64 l = .ok v ∧ -9223372036854775808 ≤ v ∧ v ≤ 9223372036854775807 ∧ e = .returned (.tuple #[.int .i64 v, .nilIface])) ∨ ((∀ v, Lib.parseIntB 64 l ≠ .ok v) ∧ ∃ (v : Int) (t : TypeId) (p : Value), e = .returned (.tuple #[.int .i64 v, .iface t p]))
theorem parse_any (s : ByteArray) (hs : s.size ≤ 20000) (w : World) (h : LnG w) :
    Calls Tryz.prog 117 #[.string s, .int .i64 10, .int .i64 64] w fun e w' => PiEnd s.data.toList e ∧ Below w.heap.size w w' := by
  obtain ⟨te, pe, hsy⟩ := h.syn
  obtain ⟨te', pe', hrg⟩ := h.rng
  have h1 : s.size ≤ 9223372036854775806 := by omega
  have h2 : s.size ≤ 281474976710656 := by omega
  cases hp : Lib.parseIntB 64 s.data.toList with
  | ok v =>
    have hv := Lib.parseIntB_bounds hp
    refine (Tryz.strconv_ParseInt_10_at64_ok s h1 v hp w).mono ?_
    rintro e w1 ⟨rfl, hw⟩
    refine ⟨Or.inl ⟨v, hp, by simp at hv; omega, by simp at hv; omega, rfl⟩, ?_⟩
    rcases hw with rfl | ⟨t, rfl⟩
    · exact Below.refl _ _
    · exact Lib.bytesWorld_below _ _ _
  | «syntax» =>
    refine (Tryz.strconv_ParseInt_10_at64_syntax s h2 hp _ w hsy (Or.inr ⟨_, _, rfl⟩)).mono ?_
    rintro e w1 ⟨N, rfl, _, _, hb⟩
    exact ⟨Or.inr ⟨fun v k => (by rw [hp] at k; cases k), _, _, _, rfl⟩, hb⟩
  | range =>
    refine (Tryz.strconv_ParseInt_10_at64_range s h2 hp _ w hrg (Or.inr ⟨_, _, rfl⟩)).mono ?_
    rintro e w1 ⟨N, rfl, _, _, hb⟩
    exact ⟨Or.inr ⟨fun v k => (by rw [hp] at k; cases k), _, _, _, rfl⟩, hb⟩
/-- What noteOf tells. -/
def NoEnd (u : Int) (o : Fr.Out) (e : Ending) : Prop := ∃ (v : Int) (b : Bool), e = .returned (.tuple #[.agg #[.int .i64 o.s, .int .i64 v], .bool b]) ∧ (b = true → Ln.noteOf u o = some (o.s, v)) ∧ (b = false → Ln.noteOf u o = none)
theorem noteOf_some {u : Int} {o : Fr.Out} {v : Int} (h1 : -1000000 ≤ v) (h2 : v ≤ 1000000) (hu : o.u = u) (hk : o.k = 3) (hb : o.b = Lib.itoa v) : Ln.noteOf u o = some (o.s, v) := by
  unfold Ln.noteOf
  have e : M.sval o.b = v := by rw [hb, M.sval_itoa]
  rw [e, if_pos ⟨hu, hk, hb.symm, h1, h2⟩]
theorem noteOf_none {u : Int} {o : Fr.Out} (h : ∀ v, -1000000 ≤ v → v ≤ 1000000 → o.u = u → o.k = 3 → o.b = Lib.itoa v → False) : Ln.noteOf u o = none := by
  unfold Ln.noteOf
  exact if_neg (fun ⟨a, b, c, d, e⟩ => h _ d e a b c.symm)
/-- A frame's value. -/
abbrev foV (o : Fr.Out) : Value := .agg #[.int .i64 o.u, .int .i64 o.k, .int .i64 o.s, .string ⟨o.b.toArray⟩]
set_option maxRecDepth 100000 in
set_option maxHeartbeats 8000000 in
theorem noteOf_any (u : Int) (o : Fr.Out) (ho : o.b.length ≤ 64) (w : World) (hg : LnG w) :
    Calls Tryz.prog 98 #[foV o, .int .i64 u] w fun e w' => NoEnd u o e ∧ Below w.heap.size w w' := by
  obtain ⟨W, hW⟩ : ∃ W, W = (w.alloc (.cells #[.int .i64 o.u, .int .i64 o.k, .int .i64 o.s, .string ⟨o.b.toArray⟩] 85)).alloc (.cells #[.int .i64 0, .int .i64 0] 37) := ⟨_, rfl⟩
  have HB : Hid (Below w.heap.size w W) := by show Below _ _ _; rw [hW]; exact ((Below.refl _ _).alloc (Nat.le_refl _) _).alloc (by simp) _
  have HX : Hid (W.rowIs w.heap.size 85 4 (rowN [.int .i64 o.u, .int .i64 o.k, .int .i64 o.s, .string ⟨o.b.toArray⟩])) := by show W.rowIs _ _ _ _; rw [hW]; exact nrow_below (rowN_alloc w _ _) (nbel_alloc _ _)
  have HY : Hid (W.rowIs (w.heap.size + 1) 37 2 (rowN [.int .i64 0, .int .i64 0])) := by show W.rowIs _ _ _ _; rw [hW]; exact rowN_alloc' (by simp) _ _
  have HG := Lib.hid hg
  have HO := Lib.hid ho
  have HW := Lib.hid hW
  clear hW hg ho
  go_enter Tryz.func98, Tryz.ntmps98
  go_wp2_with fail
  rw [← HW.out]
  clear HW
  refine (parse_any ⟨o.b.toArray⟩ (by have := HO.out; show o.b.toArray.size ≤ 20000; simp; omega) _ (HG.out.below HB.out)).mono ?_
  rintro e w1 ⟨hE, hb⟩
  replace HX := Lib.hid (nrow_below HX.out hb)
  replace HY := Lib.hid (nrow_below HY.out hb)
  replace HB : Hid (Below w.heap.size w w1) := HB.out.trans (hb.mono HB.out.size)
  clear hb
  have hE' : PiEnd o.b e := hE
  clear hE
  obtain ⟨⟨x0, x1, x2, x3⟩, _⟩ := rowN4 HX.out
  rcases hE' with ⟨v, hpv, hv1, hv2, rfl⟩ | ⟨hno, v, te, pe, rfl⟩
  · obtain ⟨V, hV⟩ : ∃ V, V = w1.alloc (.cells #[.int .i64 o.s, .int .i64 v] 37) := ⟨_, rfl⟩
    have hbV : Below w1.heap.size w1 V := by rw [hV]; exact nbel_alloc _ _
    have HXV := Lib.hid (nrow_below HX.out hbV)
    have HYV := Lib.hid (nrow_below HY.out hbV)
    have HZV : Hid (V.rowIs w1.heap.size 37 2 (rowN [.int .i64 o.s, .int .i64 v])) := by show V.rowIs _ _ _ _; rw [hV]; exact rowN_alloc _ _ _
    have HBV : Hid (Below w.heap.size w V) := HB.out.trans (hbV.mono HB.out.size)
    have hsz1 : w.heap.size + 1 < w1.heap.size := HY.out.lt
    obtain ⟨X, hXe⟩ : ∃ X, X = w1.heap.size := ⟨_, rfl⟩
    have HV := Lib.hid hV
    have HXE := Lib.hid hXe
    rw [← hXe] at HZV hsz1
    have HPV := Lib.hid hpv
    clear hV hbV HX HY HB hpv hXe
    go_wp2_with fail
    rw [← HV.out, ← HXE.out]
    clear HV HXE x0 x1 x2 x3
    refine wp_region_held_drew (S := fun V => V.rowIs w.heap.size 85 4 (rowN [.int .i64 o.u, .int .i64 o.k, .int .i64 o.s, .string ⟨o.b.toArray⟩]) ∧ V.rowIs X 37 2 (rowN [.int .i64 o.s, .int .i64 v]) ∧ (∃ a b, V.rowIs (w.heap.size + 1) 37 2 (rowN [a, b])) ∧ Below w.heap.size w V) (by kernel_rfl) ⟨HXV.out.of_block rfl, HZV.out.of_block rfl, ⟨_, _, HYV.out.of_block rfl⟩, HBV.out.drew⟩ (fun hHeld => ?_)
    obtain ⟨Z, hZ⟩ : ∃ Z, Z = V.drew := ⟨_, rfl⟩
    rw [← hZ] at hHeld ⊢
    clear hZ HXV HYV HZV HBV
    refine take_do (i := 0) (v := (.agg #[.int .i64 o.s, .int .i64 v])) rfl (by kernel_rfl) (by kernel_rfl) (by kernel_rfl) (fun _ _ _ h => h) (by rfl) ?_ (by assumption) ?_
    · intro w hSw
      obtain ⟨⟨q0, q1⟩, _⟩ := rowN2 hSw.2.1
      go_simp
    simp only [Act.put, List.setIfInBounds_toArray, List.set_cons_zero, List.set_cons_succ]
    refine take_do (i := 1) (v := (.nilIface)) rfl (by kernel_rfl) (by kernel_rfl) (by kernel_rfl) (fun _ _ _ h => h) (by rfl) ?_ (by assumption) ?_
    · intro w hSw
      go_simp
    simp only [Act.put, List.setIfInBounds_toArray, List.set_cons_zero, List.set_cons_succ]
    refine take_do (i := 2) (v := (.bool true)) rfl (by kernel_rfl) (by kernel_rfl) (by kernel_rfl) (fun _ _ _ h => h) (by rfl) ?_ (by assumption) ?_
    · intro w hSw
      go_simp
    simp only [Act.put, List.setIfInBounds_toArray, List.set_cons_zero, List.set_cons_succ]
    refine take_do (i := 3) (v := (.bool true)) rfl (by kernel_rfl) (by kernel_rfl) (by kernel_rfl) (fun _ _ _ h => h) (by rfl) ?_ (by assumption) ?_
    · intro w hSw
      go_simp
    simp only [Act.put, List.setIfInBounds_toArray, List.set_cons_zero, List.set_cons_succ]
    refine take_do (i := 4) (v := (.int .i64 v)) rfl (by kernel_rfl) (by kernel_rfl) (by kernel_rfl) (fun _ _ _ h => h) (by rfl) ?_ (by assumption) ?_
    · intro w hSw
      go_simp
    simp only [Act.put, List.setIfInBounds_toArray, List.set_cons_zero, List.set_cons_succ]
    refine take_call (i := 5) rfl (by kernel_rfl) (fun K2 hK => ?_)
    go_simp
    refine (labout_any v 1000000 (by omega) (by omega) _).mono ?_
    rintro e Z1 ⟨rfl, hz1⟩
    rw [hz1]
    clear hz1 Z1
    by_cases cv : -1000000 ≤ v ∧ v ≤ 1000000
    · rw [decide_eq_true cv]
      go_wp2_with fail
      refine hK.out _ _ hHeld (fun hHeld2 => ?_)
      clear hK hHeld
      have hHeld := hHeld2
      clear hHeld2
      refine take_do (i := 6) (v := (.bool true)) rfl (by kernel_rfl) (by kernel_rfl) (by kernel_rfl) (fun _ _ _ h => h) (by rfl) ?_ (by assumption) ?_
      · intro w hSw
        go_simp
      simp only [Act.put, List.setIfInBounds_toArray, List.set_cons_zero, List.set_cons_succ]
      refine take_do (i := 7) (v := (.bool true)) rfl (by kernel_rfl) (by kernel_rfl) (by kernel_rfl) (fun _ _ _ h => h) (by rfl) ?_ (by assumption) ?_
      · intro w hSw
        go_simp
      simp only [Act.put, List.setIfInBounds_toArray, List.set_cons_zero, List.set_cons_succ]
      refine take_do (i := 8) (v := (foV o)) rfl (by kernel_rfl) (by kernel_rfl) (by kernel_rfl) (fun _ _ _ h => h) (by rfl) ?_ (by assumption) ?_
      · intro w hSw
        obtain ⟨⟨q0, q1, q2, q3⟩, _⟩ := rowN4 hSw.1
        go_simp
      simp only [Act.put, List.setIfInBounds_toArray, List.set_cons_zero, List.set_cons_succ]
      refine take_do (i := 9) (v := (.agg #[.int .i64 o.s, .int .i64 v])) rfl (by kernel_rfl) (by kernel_rfl) (by kernel_rfl) (fun _ _ _ h => h) (by rfl) ?_ (by assumption) ?_
      · intro w hSw
        obtain ⟨⟨q0, q1⟩, _⟩ := rowN2 hSw.2.1
        go_simp
      simp only [Act.put, List.setIfInBounds_toArray, List.set_cons_zero, List.set_cons_succ]
      refine take_do (i := 10) (v := (.int .i64 u)) rfl (by kernel_rfl) (by kernel_rfl) (by kernel_rfl) (fun _ _ _ h => h) (by rfl) ?_ (by assumption) ?_
      · intro w hSw
        go_simp
      simp only [Act.put, List.setIfInBounds_toArray, List.set_cons_zero, List.set_cons_succ]
      refine take_call (i := 11) rfl (by kernel_rfl) (fun K2 hK => ?_)
      go_simp
      refine (frameOf_any o.s v u _ (lntab HG.out.tab hHeld.2.2.2) hv1 hv2).mono ?_
      rintro e Z1 ⟨rfl, hb⟩
      go_wp2_with fail
      refine hK.out _ _ ⟨nrow_below hHeld.1 hb, nrow_below hHeld.2.1 hb, (by obtain ⟨ya, yb, hy⟩ := hHeld.2.2.1; exact ⟨ya, yb, nrow_below hy hb⟩), hHeld.2.2.2.trans (hb.mono hHeld.2.2.2.size)⟩ (fun hHeld2 => ?_)
      clear hK hHeld hb
      have hHeld := hHeld2
      clear hHeld2
      obtain ⟨bb, hbb⟩ : ∃ bb : Bool, bb = true ↔ (o.u = u ∧ o.k = 3 ∧ o.b = Lib.itoa v) := by
        by_cases h : (o.u = u ∧ o.k = 3 ∧ o.b = Lib.itoa v)
        · exact ⟨true, by simp [h]⟩
        · exact ⟨false, by simp [h]⟩
      have HBB := Lib.hid hbb
      refine take_do (i := 12) (v := (.bool bb)) rfl (by kernel_rfl) (by kernel_rfl) (by kernel_rfl) (fun _ _ _ h => h) (by rfl) ?_ (by assumption) ?_
      · intro w hSw
        go_simp
        have h3 := HBB.out
        have ff : ¬ (o.u = u ∧ o.k = 3 ∧ o.b = Lib.itoa v) → bb = false := fun h => by
          cases hb : bb with
          | false => rfl
          | true => exact absurd (h3.1 hb) h
        by_cases a1 : o.u = u
        · rw [if_pos a1]
          by_cases a2 : o.k = 3
          · rw [if_pos a2]
            by_cases a3 : o.b = Lib.itoa v
            · rw [if_pos a3, h3.2 ⟨a1, a2, a3⟩]
            · rw [if_neg a3, ff (fun h => a3 h.2.2)]
          · rw [if_neg a2, ff (fun h => a2 h.2.1)]
        · rw [if_neg a1, ff (fun h => a1 h.1)]
      simp only [Act.put, List.setIfInBounds_toArray, List.set_cons_zero, List.set_cons_succ]
      refine take_do (i := 13) (v := (.bool bb)) rfl (by kernel_rfl) (by kernel_rfl) (by kernel_rfl) (fun _ _ _ h => h) (by rfl) ?_ (by assumption) ?_
      · intro w hSw
        go_simp
      simp only [Act.put, List.setIfInBounds_toArray, List.set_cons_zero, List.set_cons_succ]
      obtain ⟨ya, yb, HYR⟩ := hHeld.2.2.1
      have HYZ := Lib.hid HYR
      obtain ⟨⟨y0, y1⟩, g0, g1⟩ := rowN2 HYR
      have hl1 := HYR.lt
      have zr := Lib.hid (rowN_put (rowN_put HYR 0 (.int .i64 o.s) (by simp)) 1 (.int .i64 v) (by simp))
      have zb := Lib.hid ((hHeld.2.2.2.setCell (p := ⟨w.heap.size + 1, 0, none⟩) (by show w.heap.size ≤ w.heap.size + 1; omega) (.int .i64 o.s)).setCell (p := ⟨w.heap.size + 1, 1, none⟩) (by show w.heap.size ≤ w.heap.size + 1; omega) (.int .i64 v))
      have zx := Lib.hid (nrow_set (nrow_set hHeld.1 (p := ⟨w.heap.size + 1, 0, none⟩) (by show w.heap.size ≠ w.heap.size + 1; omega) (.int .i64 o.s)) (p := ⟨w.heap.size + 1, 1, none⟩) (by show w.heap.size ≠ w.heap.size + 1; omega) (.int .i64 v))
      have zn := Lib.hid (nrow_set (nrow_set hHeld.2.1 (p := ⟨w.heap.size + 1, 0, none⟩) (by show X ≠ w.heap.size + 1; omega) (.int .i64 o.s)) (p := ⟨w.heap.size + 1, 1, none⟩) (by show X ≠ w.heap.size + 1; omega) (.int .i64 v))
      clear HYR
      refine take_call (i := 14) rfl (by kernel_rfl) (fun K2 hK => ?_)
      go_simp
      refine hK.out _ _ ⟨zx.out, zn.out, ⟨_, _, zr.out⟩, zb.out⟩ (fun hHeld2 => ?_)
      clear hK hHeld
      have hHeld := hHeld2
      clear hHeld2
      refine take_do (i := 15) (v := (.bool bb)) rfl (by kernel_rfl) (by kernel_rfl) (by kernel_rfl) (fun _ _ _ h => h) (by rfl) ?_ (by assumption) ?_
      · intro w hSw
        go_simp
      simp only [Act.put, List.setIfInBounds_toArray, List.set_cons_zero, List.set_cons_succ]
      refine wpAnyH_done (by kernel_rfl) ?_ _
      go_wp2_with fail
      refine bodyPost_ret (v := .tuple #[.agg #[.int .i64 o.s, .int .i64 v], .bool bb]) ?_ rfl ⟨⟨v, bb, rfl, fun h => (by obtain ⟨h1, h2, h3⟩ := HBB.out.1 h; exact noteOf_some cv.1 cv.2 h1 h2 h3), fun h => noteOf_none (fun x h1 h2 h3 h4 h5 => by
        have e1 := M.parse_itoa x (by omega) (by omega)
        rw [← h5, HPV.out] at e1
        have e2 : v = x := by injection e1
        have := HBB.out.2 ⟨h3, h4, by rw [e2]; exact h5⟩
        rw [h] at this; cases this)⟩, zb.out⟩
      obtain ⟨⟨u0, u1⟩, _⟩ := rowN2 zr.out
      simp only [results, Tryz.results98]
      simp [go_sem, u0, u1]
    · have HNO : Hid (Ln.noteOf u o = none) := noteOf_none (fun x h1 h2 _ _ hb => by
        have e1 := M.parse_itoa x (by omega) (by omega)
        rw [← hb, HPV.out] at e1
        have e2 : v = x := by injection e1
        exact cv ⟨by omega, by omega⟩)
      rw [decide_eq_false cv]
      go_wp2_with fail
      refine hK.out _ _ hHeld (fun hHeld2 => ?_)
      clear hK hHeld
      have hHeld := hHeld2
      clear hHeld2
      refine take_do (i := 6) (v := (.bool false)) rfl (by kernel_rfl) (by kernel_rfl) (by kernel_rfl) (fun _ _ _ h => h) (by rfl) ?_ (by assumption) ?_
      · intro w hSw
        go_simp
      simp only [Act.put, List.setIfInBounds_toArray, List.set_cons_zero, List.set_cons_succ]
      refine take_do (i := 7) (v := (.bool false)) rfl (by kernel_rfl) (by kernel_rfl) (by kernel_rfl) (fun _ _ _ h => h) (by rfl) ?_ (by assumption) ?_
      · intro w hSw
        go_simp
      simp only [Act.put, List.setIfInBounds_toArray, List.set_cons_zero, List.set_cons_succ]
      refine take_skip (i := 8) rfl (by kernel_rfl) (by kernel_rfl) (by kernel_rfl) (fun _ _ _ h => h) (by rfl) (by assumption) ?_
      simp only [Act.put, List.setIfInBounds_toArray, List.set_cons_zero, List.set_cons_succ]
      refine take_skip (i := 9) rfl (by kernel_rfl) (by kernel_rfl) (by kernel_rfl) (fun _ _ _ h => h) (by rfl) (by assumption) ?_
      simp only [Act.put, List.setIfInBounds_toArray, List.set_cons_zero, List.set_cons_succ]
      refine take_skip (i := 10) rfl (by kernel_rfl) (by kernel_rfl) (by kernel_rfl) (fun _ _ _ h => h) (by rfl) (by assumption) ?_
      simp only [Act.put, List.setIfInBounds_toArray, List.set_cons_zero, List.set_cons_succ]
      refine take_skip (i := 11) rfl (by kernel_rfl) (by kernel_rfl) (by kernel_rfl) (fun _ _ _ h => h) (by rfl) (by assumption) ?_
      simp only [Act.put, List.setIfInBounds_toArray, List.set_cons_zero, List.set_cons_succ]
      refine take_skip (i := 12) rfl (by kernel_rfl) (by kernel_rfl) (by kernel_rfl) (fun _ _ _ h => h) (by rfl) (by assumption) ?_
      simp only [Act.put, List.setIfInBounds_toArray, List.set_cons_zero, List.set_cons_succ]
      refine take_do (i := 13) (v := (.bool false)) rfl (by kernel_rfl) (by kernel_rfl) (by kernel_rfl) (fun _ _ _ h => h) (by rfl) ?_ (by assumption) ?_
      · intro w hSw
        go_simp
      simp only [Act.put, List.setIfInBounds_toArray, List.set_cons_zero, List.set_cons_succ]
      obtain ⟨ya, yb, HYR⟩ := hHeld.2.2.1
      have HYZ := Lib.hid HYR
      obtain ⟨⟨y0, y1⟩, g0, g1⟩ := rowN2 HYR
      have hl1 := HYR.lt
      have zr := Lib.hid (rowN_put (rowN_put HYR 0 (.int .i64 o.s) (by simp)) 1 (.int .i64 v) (by simp))
      have zb := Lib.hid ((hHeld.2.2.2.setCell (p := ⟨w.heap.size + 1, 0, none⟩) (by show w.heap.size ≤ w.heap.size + 1; omega) (.int .i64 o.s)).setCell (p := ⟨w.heap.size + 1, 1, none⟩) (by show w.heap.size ≤ w.heap.size + 1; omega) (.int .i64 v))
      have zx := Lib.hid (nrow_set (nrow_set hHeld.1 (p := ⟨w.heap.size + 1, 0, none⟩) (by show w.heap.size ≠ w.heap.size + 1; omega) (.int .i64 o.s)) (p := ⟨w.heap.size + 1, 1, none⟩) (by show w.heap.size ≠ w.heap.size + 1; omega) (.int .i64 v))
      have zn := Lib.hid (nrow_set (nrow_set hHeld.2.1 (p := ⟨w.heap.size + 1, 0, none⟩) (by show X ≠ w.heap.size + 1; omega) (.int .i64 o.s)) (p := ⟨w.heap.size + 1, 1, none⟩) (by show X ≠ w.heap.size + 1; omega) (.int .i64 v))
      clear HYR
      refine take_call (i := 14) rfl (by kernel_rfl) (fun K2 hK => ?_)
      go_simp
      refine hK.out _ _ ⟨zx.out, zn.out, ⟨_, _, zr.out⟩, zb.out⟩ (fun hHeld2 => ?_)
      clear hK hHeld
      have hHeld := hHeld2
      clear hHeld2
      refine take_do (i := 15) (v := (.bool false)) rfl (by kernel_rfl) (by kernel_rfl) (by kernel_rfl) (fun _ _ _ h => h) (by rfl) ?_ (by assumption) ?_
      · intro w hSw
        go_simp
      simp only [Act.put, List.setIfInBounds_toArray, List.set_cons_zero, List.set_cons_succ]
      refine wpAnyH_done (by kernel_rfl) ?_ _
      go_wp2_with fail
      refine bodyPost_ret (v := .tuple #[.agg #[.int .i64 o.s, .int .i64 v], .bool false]) ?_ rfl ⟨⟨v, false, rfl, (fun h => by cases h), fun _ => HNO.out⟩, zb.out⟩
      obtain ⟨⟨u0, u1⟩, _⟩ := rowN2 zr.out
      simp only [results, Tryz.results98]
      simp [go_sem, u0, u1]
  · have HNO : Hid (Ln.noteOf u o = none) := noteOf_none (fun x h1 h2 _ _ hb => hno x (by rw [hb]; exact M.parse_itoa x (by omega) (by omega)))
    obtain ⟨V, hV⟩ : ∃ V, V = w1.alloc (.cells #[.int .i64 o.s, .int .i64 v] 37) := ⟨_, rfl⟩
    have hbV : Below w1.heap.size w1 V := by rw [hV]; exact nbel_alloc _ _
    have HXV := Lib.hid (nrow_below HX.out hbV)
    have HYV := Lib.hid (nrow_below HY.out hbV)
    have HZV : Hid (V.rowIs w1.heap.size 37 2 (rowN [.int .i64 o.s, .int .i64 v])) := by show V.rowIs _ _ _ _; rw [hV]; exact rowN_alloc _ _ _
    have HBV : Hid (Below w.heap.size w V) := HB.out.trans (hbV.mono HB.out.size)
    have hsz1 : w.heap.size + 1 < w1.heap.size := HY.out.lt
    obtain ⟨X, hXe⟩ : ∃ X, X = w1.heap.size := ⟨_, rfl⟩
    have HV := Lib.hid hV
    have HXE := Lib.hid hXe
    rw [← hXe] at HZV hsz1
    clear hV hbV HX HY HB hno hXe
    go_wp2_with fail
    rw [← HV.out, ← HXE.out]
    clear HV HXE x0 x1 x2 x3
    refine wp_region_held_drew (S := fun V => V.rowIs w.heap.size 85 4 (rowN [.int .i64 o.u, .int .i64 o.k, .int .i64 o.s, .string ⟨o.b.toArray⟩]) ∧ V.rowIs X 37 2 (rowN [.int .i64 o.s, .int .i64 v]) ∧ (∃ a b, V.rowIs (w.heap.size + 1) 37 2 (rowN [a, b])) ∧ Below w.heap.size w V) (by kernel_rfl) ⟨HXV.out.of_block rfl, HZV.out.of_block rfl, ⟨_, _, HYV.out.of_block rfl⟩, HBV.out.drew⟩ (fun hHeld => ?_)
    obtain ⟨Z, hZ⟩ : ∃ Z, Z = V.drew := ⟨_, rfl⟩
    rw [← hZ] at hHeld ⊢
    clear hZ HXV HYV HZV HBV
    refine take_do (i := 0) (v := (.agg #[.int .i64 o.s, .int .i64 v])) rfl (by kernel_rfl) (by kernel_rfl) (by kernel_rfl) (fun _ _ _ h => h) (by rfl) ?_ (by assumption) ?_
    · intro w hSw
      obtain ⟨⟨q0, q1⟩, _⟩ := rowN2 hSw.2.1
      go_simp
    simp only [Act.put, List.setIfInBounds_toArray, List.set_cons_zero, List.set_cons_succ]
    refine take_do (i := 1) (v := (.iface te pe)) rfl (by kernel_rfl) (by kernel_rfl) (by kernel_rfl) (fun _ _ _ h => h) (by rfl) ?_ (by assumption) ?_
    · intro w hSw
      go_simp
    simp only [Act.put, List.setIfInBounds_toArray, List.set_cons_zero, List.set_cons_succ]
    refine take_do (i := 2) (v := (.bool false)) rfl (by kernel_rfl) (by kernel_rfl) (by kernel_rfl) (fun _ _ _ h => h) (by rfl) ?_ (by assumption) ?_
    · intro w hSw
      go_simp
    simp only [Act.put, List.setIfInBounds_toArray, List.set_cons_zero, List.set_cons_succ]
    refine take_do (i := 3) (v := (.bool false)) rfl (by kernel_rfl) (by kernel_rfl) (by kernel_rfl) (fun _ _ _ h => h) (by rfl) ?_ (by assumption) ?_
    · intro w hSw
      go_simp
    simp only [Act.put, List.setIfInBounds_toArray, List.set_cons_zero, List.set_cons_succ]
    refine take_skip (i := 4) rfl (by kernel_rfl) (by kernel_rfl) (by kernel_rfl) (fun _ _ _ h => h) (by rfl) (by assumption) ?_
    simp only [Act.put, List.setIfInBounds_toArray, List.set_cons_zero, List.set_cons_succ]
    refine take_skip (i := 5) rfl (by kernel_rfl) (by kernel_rfl) (by kernel_rfl) (fun _ _ _ h => h) (by rfl) (by assumption) ?_
    simp only [Act.put, List.setIfInBounds_toArray, List.set_cons_zero, List.set_cons_succ]
    refine take_do (i := 6) (v := (.bool false)) rfl (by kernel_rfl) (by kernel_rfl) (by kernel_rfl) (fun _ _ _ h => h) (by rfl) ?_ (by assumption) ?_
    · intro w hSw
      go_simp
    simp only [Act.put, List.setIfInBounds_toArray, List.set_cons_zero, List.set_cons_succ]
    refine take_do (i := 7) (v := (.bool false)) rfl (by kernel_rfl) (by kernel_rfl) (by kernel_rfl) (fun _ _ _ h => h) (by rfl) ?_ (by assumption) ?_
    · intro w hSw
      go_simp
    simp only [Act.put, List.setIfInBounds_toArray, List.set_cons_zero, List.set_cons_succ]
    refine take_skip (i := 8) rfl (by kernel_rfl) (by kernel_rfl) (by kernel_rfl) (fun _ _ _ h => h) (by rfl) (by assumption) ?_
    simp only [Act.put, List.setIfInBounds_toArray, List.set_cons_zero, List.set_cons_succ]
    refine take_skip (i := 9) rfl (by kernel_rfl) (by kernel_rfl) (by kernel_rfl) (fun _ _ _ h => h) (by rfl) (by assumption) ?_
    simp only [Act.put, List.setIfInBounds_toArray, List.set_cons_zero, List.set_cons_succ]
    refine take_skip (i := 10) rfl (by kernel_rfl) (by kernel_rfl) (by kernel_rfl) (fun _ _ _ h => h) (by rfl) (by assumption) ?_
    simp only [Act.put, List.setIfInBounds_toArray, List.set_cons_zero, List.set_cons_succ]
    refine take_skip (i := 11) rfl (by kernel_rfl) (by kernel_rfl) (by kernel_rfl) (fun _ _ _ h => h) (by rfl) (by assumption) ?_
    simp only [Act.put, List.setIfInBounds_toArray, List.set_cons_zero, List.set_cons_succ]
    refine take_skip (i := 12) rfl (by kernel_rfl) (by kernel_rfl) (by kernel_rfl) (fun _ _ _ h => h) (by rfl) (by assumption) ?_
    simp only [Act.put, List.setIfInBounds_toArray, List.set_cons_zero, List.set_cons_succ]
    refine take_do (i := 13) (v := (.bool false)) rfl (by kernel_rfl) (by kernel_rfl) (by kernel_rfl) (fun _ _ _ h => h) (by rfl) ?_ (by assumption) ?_
    · intro w hSw
      go_simp
    simp only [Act.put, List.setIfInBounds_toArray, List.set_cons_zero, List.set_cons_succ]
    obtain ⟨ya, yb, HYR⟩ := hHeld.2.2.1
    have HYZ := Lib.hid HYR
    obtain ⟨⟨y0, y1⟩, g0, g1⟩ := rowN2 HYR
    have hl1 := HYR.lt
    have zr := Lib.hid (rowN_put (rowN_put HYR 0 (.int .i64 o.s) (by simp)) 1 (.int .i64 v) (by simp))
    have zb := Lib.hid ((hHeld.2.2.2.setCell (p := ⟨w.heap.size + 1, 0, none⟩) (by show w.heap.size ≤ w.heap.size + 1; omega) (.int .i64 o.s)).setCell (p := ⟨w.heap.size + 1, 1, none⟩) (by show w.heap.size ≤ w.heap.size + 1; omega) (.int .i64 v))
    have zx := Lib.hid (nrow_set (nrow_set hHeld.1 (p := ⟨w.heap.size + 1, 0, none⟩) (by show w.heap.size ≠ w.heap.size + 1; omega) (.int .i64 o.s)) (p := ⟨w.heap.size + 1, 1, none⟩) (by show w.heap.size ≠ w.heap.size + 1; omega) (.int .i64 v))
    have zn := Lib.hid (nrow_set (nrow_set hHeld.2.1 (p := ⟨w.heap.size + 1, 0, none⟩) (by show X ≠ w.heap.size + 1; omega) (.int .i64 o.s)) (p := ⟨w.heap.size + 1, 1, none⟩) (by show X ≠ w.heap.size + 1; omega) (.int .i64 v))
    clear HYR
    refine take_call (i := 14) rfl (by kernel_rfl) (fun K2 hK => ?_)
    go_simp
    refine hK.out _ _ ⟨zx.out, zn.out, ⟨_, _, zr.out⟩, zb.out⟩ (fun hHeld2 => ?_)
    clear hK hHeld
    have hHeld := hHeld2
    clear hHeld2
    refine take_do (i := 15) (v := (.bool false)) rfl (by kernel_rfl) (by kernel_rfl) (by kernel_rfl) (fun _ _ _ h => h) (by rfl) ?_ (by assumption) ?_
    · intro w hSw
      go_simp
    simp only [Act.put, List.setIfInBounds_toArray, List.set_cons_zero, List.set_cons_succ]
    refine wpAnyH_done (by kernel_rfl) ?_ _
    go_wp2_with fail
    refine bodyPost_ret (v := .tuple #[.agg #[.int .i64 o.s, .int .i64 v], .bool false]) ?_ rfl ⟨⟨v, false, rfl, (fun h => by cases h), fun _ => HNO.out⟩, zb.out⟩
    obtain ⟨⟨u0, u1⟩, _⟩ := rowN2 zr.out
    simp only [results, Tryz.results98]
    simp [go_sem, u0, u1]
end Go.Proofs.YtighcbpcclifoaaGreatDoor
