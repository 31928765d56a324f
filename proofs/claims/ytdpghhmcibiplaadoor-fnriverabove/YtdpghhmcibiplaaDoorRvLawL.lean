/-
  The law FnRiverLeast.
-/
import Derived.Test.YtdpghhmcibiplaaDoorRvDr3
import Derived.Test.YtdpghhmcibiplaaDoorRvLw
import Derived.Test.YtdpghhmcibiplaaDoorRvSh
import Derived.Test.YtdpghhmcibiplaaDoorRvS4
import Derived.Deep.Cut
namespace Go.Proofs.YtdpghhmcibiplaaDoor
open Go.RowKit Go.Deep

/-- A copy of a river: what append makes of it. -/
theorem copy_blk {w2 : World} {g c n : Nat} {rs : Nat → Rv.Rc} {B : Nat} (hown : w2.ownsRow B 43 5 (.slice (some ⟨g, 0, none⟩) n c) n ((listOf rs n).flatMap rcCells)) : RcBlk g n rs w2 := by
  have hown' : w2.ownsRow B 43 5 (.slice (some ⟨g, 0, none⟩) n c) (listOf rs n).length ((listOf rs n).flatMap rcCells) := by rw [listOf_len]; exact hown
  rcases own_rcs hown' with ⟨e, _⟩ | ⟨g', c', e, _, hblk⟩
  · cases e
  · rw [listOf_len] at e hblk
    cases e
    exact hblk.congr (fun j hj => rcList_of rs hj)
/-- A list of places as numbers. -/
def natF (l : List Nat) : Nat → Int := fun j => ((l.getD j 0 : Nat) : Int)
theorem short_fn (rs : Nat → Rv.Rc) (tk : Nat → Int) (n i : Nat) (hi : i < n) : (∃ j, j < (Rv.short rs tk n).length ∧ natF (Rv.short rs tk n) j = (i : Int)) ↔ tk i < (rs i).tk := by
  unfold natF
  rw [← Rv.mem_short hi]
  constructor
  · rintro ⟨j, h1, h2⟩
    have : (Rv.short rs tk n).getD j 0 = i := by omega
    rw [← this, List.getD_eq_getElem?_getD, List.getElem?_eq_getElem h1]
    exact List.getElem_mem h1
  · intro h
    obtain ⟨j, h1, h2⟩ := List.getElem_of_mem h
    exact ⟨j, h1, by rw [List.getD_eq_getElem?_getD, List.getElem?_eq_getElem h1]; simp [h2]⟩
theorem nat_own {B : Nat} {v : Value} {l : List Nat} {W : World} (h : W.ownsRow B 2 1 v l.length (natVs l)) : ∃ a c, v = .slice a l.length c ∧ IntsAt a l.length (natF l) W := by
  have h' : W.ownsRow B 2 1 v (l.map (fun (k : Nat) => (k : Int))).length ((l.map (fun (k : Nat) => (k : Int))).map (Value.int .i64)) := by
    rw [List.length_map, List.map_map]; exact h
  rcases own_ints h' with ⟨e1, e2⟩ | ⟨g, cap, e1, e2, e3⟩
  · have : l = [] := by simpa using e2
    subst this
    exact ⟨none, 0, e1, Or.inl rfl⟩
  · rw [List.length_map] at e1 e3
    refine ⟨_, _, e1, (e3.congr (f' := natF l) (fun j hj => ?_)).at_⟩
    unfold inList natF
    simp [List.getD, hj]

theorem code_field (a b c : Value) (d e : Int) (w : World) : (Instr.field 27 (.agg #[a, b, c, .int .i64 d, .int .i64 e]) 4).run Tryd.prog w = .ok (.int .i64 e) w := by kernel_rfl

/-- What a round reads. -/
def LsS (w : World) (lb n cl gf gt X i N : Nat) (a : Option Addr) (rs : Nat → Rv.Rc) (row : Nat → Value) (fl tk F : Nat → Int) (W : World) : Prop :=
  (∀ j, j < n → RcCells lb (j * 5) (rs j) W) ∧ InBlk gf n fl W ∧ InBlk gt n tk W ∧ W.rowIs X 27 5 row ∧ IntsAt a N F W ∧ Below w.heap.size w W ∧ cl = cl ∧ i = i
theorem LsS.below {w : World} {lb n cl gf gt X i N : Nat} {a : Option Addr} {rs : Nat → Rv.Rc} {row : Nat → Value} {fl tk F : Nat → Int} {W W' : World} (h : LsS w lb n cl gf gt X i N a rs row fl tk F W) (hb : Below W.heap.size W W') : LsS w lb n cl gf gt X i N a rs row fl tk F W' :=
  ⟨fun j hj => (h.1 j hj).block (hb.block _ (h.1 j hj).lt), h.2.1.block (hb.block _ h.2.1.lt), h.2.2.1.block (hb.block _ h.2.2.1.lt), h.2.2.2.1.of_block (hb.block _ h.2.2.2.1.lt), h.2.2.2.2.1.below hb, h.2.2.2.2.2.1.trans (hb.mono h.2.2.2.2.2.1.size), rfl, rfl⟩

set_option maxRecDepth 100000 in
set_option maxHeartbeats 16000000 in
theorem least_law (a : Option Addr) (len cap : Nat) (w : World) (h : Bytes a len w) (hl : len ≤ 1048576) (hg : Et w) :
    Calls Tryd.prog 5 #[.slice a len cap] w fun e w' => e = .returned (.bool true) ∧ Below w.heap.size w w' := by
  obtain ⟨i0, hi0, hz0, hz1, hz2⟩ := info_parts info_rc
  have hlz : ¬ (1048576 : Int) < (len : Int) := by omega
  have H := Lib.hid h
  have HG := Lib.hid hg
  clear h hg
  go_enter Tryd.func5, Tryd.ntmps5
  go_wp2_with fail
  refine (drawStep_any a len cap _ H.out (by omega)).mono ?_
  rintro e w1 ⟨⟨n, m, gl, gr, cl, cr, rs, f, rfl, hD⟩, hb⟩
  have B1 := Lib.hid hb
  have D1 := Lib.hid hD
  obtain ⟨⟨hn1, hn2⟩, ⟨hm1, hm2⟩, _, _, _⟩ := hD
  clear hb
  go_wp2_with fail
  refine (specStep_any _ _ n cl m cr rs f _ D1.out.2.2.2.1.at_ D1.out.2.2.2.2.at_).mono ?_
  rintro e w2 ⟨hE, hb⟩
  have B2 : Hid (Below w.heap.size w w2) := B1.out.trans (hb.mono B1.out.size)
  have D2 := Lib.hid (D1.out.below hb)
  clear hb B1 D1
  rcases hE with ⟨k, hk, hk0, rfl⟩ | ⟨st, sl, sf, stt, sc, scf, sct, hk, rfl, _⟩
  · have hkz : (k == 0) = false := by simp [hk0]
    have hkn : (k != 0) = true := by simp [hk0]
    have hfd := code_field (.slice none 0 0) (.slice none 0 0) (.slice none 0 0) 0 k
    clear hk
    go_wp2_with fail
    go_ret
    exact ⟨rfl, B2.out⟩
  · have HK := Lib.hid hk
    have hn40 : n ≤ 40 := (Rv.stepF_inv hk).1.1.1.2
    have hfd := code_field (.slice (some ⟨sl, 0, none⟩) n sc) (.slice (some ⟨sf, 0, none⟩) n scf) (.slice (some ⟨stt, 0, none⟩) n sct) st.sea 0
    clear hk
    go_wp2_with (at_builtin; refine wpList_append_lies _ rfl _ _ 25 rfl w2.heap.size 43 i0 (.agg #[.int .i64 0, .int .i64 0, .int .i64 0, .int .i64 0, .int .i64 0]) 5 40 Tryd.underlying25 hi0 hz0 hz1 hz2 rfl (by decide) _ _ _ rfl (World.ownsRow_made w2 #[] 0 (Nat.le_refl _) (Nat.zero_le _) rfl) ⟨gl, 0, none⟩ n cl ((listOf rs n).flatMap rcCells) rfl ?qa1 ?qa2 ?qa3 ?qa4 ?qa5 ?qa6 ?qa7 (w2.heap.size + 1) ?qa8 ?_)
    try (case qa1 => rw [rcCells_len, listOf_len])
    try (case qa2 => (
      intro j u hj
      have hjn : j < n * 5 := by
        have := (List.getElem?_eq_some_iff.1 hj).1
        rw [rcCells_len, listOf_len] at this
        exact this
      rw [Addr.add_lit]
      refine Lib.cell?_alloc_some _ ?_
      rw [Nat.zero_add, rc_cell (fun i hi => D2.out.2.2.2.1.cells hi) j hjn]
      rw [rcCells_get _ _ (by rw [listOf_len]; exact hjn)] at hj
      rw [← hj]
      unfold rcRow; rw [rcList_of rs (by omega)]))
    try (case qa3 => (
      intro u hu
      obtain ⟨x, _, hx⟩ := List.mem_flatMap.1 hu
      simp [rcCells] at hx
      rcases hx with rfl | rfl | rfl | rfl | rfl <;> rfl))
    try (case qa4 => omega)
    try (case qa5 => (unfold maxLen; omega))
    try (case qa6 => omega)
    try (case qa7 => first | omega | simp)
    try (case qa8 => simp)
    intro g3b g3 w3 hown hgrow hat hlt3
    have hb : Below w2.heap.size w2 w3 := ((Below.refl _ w2).alloc (Nat.le_refl _) _).grown hgrow (by simp) (by intro k hk; simp [Value.ownBlock] at hk; omega)
    have K3 : Hid (RcBlk g3b n rs w3) := Lib.hid (copy_blk (by simpa using hown))
    have B3 : Hid (Below w.heap.size w w3) := B2.out.trans (hb.mono B2.out.size)
    have D3 := Lib.hid (D2.out.below hb)
    clear hown hgrow hat hlt3 hb B2 D2
    go_wp2_with fail
    refine (lwCopy_any gr m cr f _ D3.out.2.2.2.2 hm1 (by omega)).mono ?_
    rintro e w4 ⟨⟨q1, q2, rfl, _, hq⟩, hb⟩
    have B4 : Hid (Below w.heap.size w w4) := B3.out.trans (hb.mono B3.out.size)
    have D4 := Lib.hid (D3.out.below hb)
    have K4 := Lib.hid (K3.out.block (hb.block _ K3.out.lt))
    have Q4 := Lib.hid hq
    clear hb hq B3 D3 K3
    go_wp2_with fail
    refine (implStep_any _ _ n g3 m q2 rs f _ K4.out.at_ Q4.out.at_ (HG.out.below B4.out)).mono ?_
    rintro e w5 ⟨hE, hb⟩
    have D5 := Lib.hid (D4.out.below hb)
    have B5 : Hid (Below w.heap.size w w5) := B4.out.trans (hb.mono B4.out.size)
    clear hb B4 D4 K4 Q4
    rcases hE with ⟨k, hk, _, _⟩ | ⟨st', xl, xf, xt, xc, xcf, xct, hk, rfl, hL⟩
    · rw [HK.out] at hk; cases hk
    · rw [HK.out] at hk
      cases hk
      have R5 : Hid (World.rowIs _ w5.heap.size 27 5 (ro5 (.slice (some ⟨xl, 0, none⟩) n xc) (.slice (some ⟨xf, 0, none⟩) n xcf) (.slice (some ⟨xt, 0, none⟩) n xct) st.sea 0)) := Lib.hid (World.rowIs_alloc w5 #[.slice (some ⟨xl, 0, none⟩) n xc, .slice (some ⟨xf, 0, none⟩) n xcf, .slice (some ⟨xt, 0, none⟩) n xct, .int .i64 st.sea, .int .i64 0] 27 _ (ro5_row (.slice (some ⟨xl, 0, none⟩) n xc) (.slice (some ⟨xf, 0, none⟩) n xcf) (.slice (some ⟨xt, 0, none⟩) n xct) st.sea 0))
      have hb5 : Below w5.heap.size w5 (w5.alloc (.cells #[.slice (some ⟨xl, 0, none⟩) n xc, .slice (some ⟨xf, 0, none⟩) n xcf, .slice (some ⟨xt, 0, none⟩) n xct, .int .i64 st.sea, .int .i64 0] 27)) := (Below.refl _ _).alloc (Nat.le_refl _) _
      have D6 := Lib.hid (D5.out.below hb5)
      have B6 := Lib.hid (B5.out.trans (hb5.mono B5.out.size))
      have F6 := Lib.hid (hL.2.2.2.1.block (hb5.block _ hL.2.2.2.1.lt))
      have T6 := Lib.hid (hL.2.2.2.2.block (hb5.block _ hL.2.2.2.2.lt))
      clear hL hb5 B5 D5
      go_upto_region 7 with fail
      generalize (w5.alloc (.cells #[.slice (some ⟨xl, 0, none⟩) n xc, .slice (some ⟨xf, 0, none⟩) n xcf, .slice (some ⟨xt, 0, none⟩) n xct, .int .i64 st.sea, .int .i64 0] 27)) = W6 at *
      generalize w5.heap.size = X at *
      have y1 : W6.cell? ⟨X, 1, none⟩ = some (.slice (some ⟨xf, 0, none⟩) n xcf) := R5.out.cell (i := 1) (by omega)
      have y2 : W6.cell? ⟨X, 2, none⟩ = some (.slice (some ⟨xt, 0, none⟩) n xct) := R5.out.cell (i := 2) (by omega)
      have zX : X < W6.heap.size := R5.out.lt
      go_wp2_with (at_builtin; refine wpList_append_lies _ rfl _ _ 25 rfl W6.heap.size 43 i0 (.agg #[.int .i64 0, .int .i64 0, .int .i64 0, .int .i64 0, .int .i64 0]) 5 40 Tryd.underlying25 hi0 hz0 hz1 hz2 rfl (by decide) _ _ _ rfl (World.ownsRow_made W6 #[] 0 (Nat.le_refl _) (Nat.zero_le _) rfl) ⟨gl, 0, none⟩ n cl ((listOf rs n).flatMap rcCells) rfl ?qb1 ?qb2 ?qb3 ?qb4 ?qb5 ?qb6 ?qb7 (W6.heap.size + 1) ?qb8 ?_)
      try (case qb1 => rw [rcCells_len, listOf_len])
      try (case qb2 => (
        intro j u hj
        have hjn : j < n * 5 := by
          have := (List.getElem?_eq_some_iff.1 hj).1
          rw [rcCells_len, listOf_len] at this
          exact this
        rw [Addr.add_lit]
        refine Lib.cell?_alloc_some _ ?_
        rw [Nat.zero_add, rc_cell (fun i hi => D6.out.2.2.2.1.cells hi) j hjn]
        rw [rcCells_get _ _ (by rw [listOf_len]; exact hjn)] at hj
        rw [← hj]
        unfold rcRow; rw [rcList_of rs (by omega)]))
      try (case qb3 => (
        intro u hu
        obtain ⟨x, _, hx⟩ := List.mem_flatMap.1 hu
        simp [rcCells] at hx
        rcases hx with rfl | rfl | rfl | rfl | rfl <;> rfl))
      try (case qb4 => omega)
      try (case qb5 => (unfold maxLen; omega))
      try (case qb6 => omega)
      try (case qb7 => first | omega | simp)
      try (case qb8 => simp)
      intro g7b g7 w7 hown hgrow hat hlt3
      have hb : Below W6.heap.size W6 w7 := ((Below.refl _ W6).alloc (Nat.le_refl _) _).grown hgrow (by simp) (by intro k hk; simp [Value.ownBlock] at hk; omega)
      have K7 : Hid (RcBlk g7b n rs w7) := Lib.hid (copy_blk (by simpa using hown))
      have B7 : Hid (Below w.heap.size w w7) := B6.out.trans (hb.mono B6.out.size)
      have D7 := Lib.hid (D6.out.below hb)
      have R7 := Lib.hid (R5.out.of_block (hb.block _ R5.out.lt))
      have F7 := Lib.hid (F6.out.block (hb.block _ F6.out.lt))
      have T7 := Lib.hid (T6.out.block (hb.block _ T6.out.lt))
      clear R5 F6 T6 y1 y2 zX
      clear hown hgrow hat hlt3 hb B6 D6
      go_wp2_with fail
      refine (lwCopy_any gr m cr f _ D7.out.2.2.2.2 hm1 (by omega)).mono ?_
      rintro e w8 ⟨⟨q3, q4, rfl, _, hq⟩, hb⟩
      have D8 := Lib.hid (D7.out.below hb)
      have B8 : Hid (Below w.heap.size w w8) := B7.out.trans (hb.mono B7.out.size)
      have R8 := Lib.hid (R7.out.of_block (hb.block _ R7.out.lt))
      have F8 := Lib.hid (F7.out.block (hb.block _ F7.out.lt))
      have T8 := Lib.hid (T7.out.block (hb.block _ T7.out.lt))
      have K8 := Lib.hid (K7.out.block (hb.block _ K7.out.lt))
      have Q8 := Lib.hid hq
      clear hb hq D7 B7 R7 F7 T7 K7
      go_wp2_with fail
      refine (implShort_any _ _ n g7 m q4 rs f _ K8.out.at_ Q8.out.at_ (HG.out.below B8.out)).mono ?_
      rintro e w9 ⟨⟨v9, rfl, ho⟩, hb⟩
      rw [HK.out] at ho
      have ho' : w9.ownsRow w8.heap.size 2 1 v9 (Rv.short rs st.tk n).length (natVs (Rv.short rs st.tk n)) := ho
      obtain ⟨a9, c9, rfl, hI9⟩ := nat_own ho'
      have hsl : (Rv.short rs st.tk n).length ≤ 1048576 := by have := short_len rs st.tk n; omega
      have HSF := Lib.hid (fun i hi => short_fn rs st.tk n i hi)
      have hinv := Rv.stepF_inv HK.out
      have HV := Lib.hid (Rv.run_inv hinv.1.1 hinv.1.2.2 (Nat.le_refl _) hinv.2)
      have S9 : Hid (LsS w gl n cl xf xt X 0 (Rv.short rs st.tk n).length a9 rs (ro5 (.slice (some ⟨xl, 0, none⟩) n xc) (.slice (some ⟨xf, 0, none⟩) n xcf) (.slice (some ⟨xt, 0, none⟩) n xct) st.sea 0) st.fl st.tk (natF (Rv.short rs st.tk n)) w9) := ⟨fun j hj => (D8.out.2.2.2.1.cells hj).block (hb.block _ D8.out.2.2.2.1.lt), F8.out.block (hb.block _ F8.out.lt), T8.out.block (hb.block _ T8.out.lt), R8.out.of_block (hb.block _ R8.out.lt), hI9, B8.out.trans (hb.mono B8.out.size), rfl, rfl⟩
      clear ho ho' hI9 hb D8 B8 R8 F8 T8 K8 Q8 hinv
      generalize (Rv.short rs st.tk n).length = NS at *
      generalize natF (Rv.short rs st.tk n) = FS at *
      go_wp2_with fail
      go_loopw [7] (fun iv wr => ∃ (i : Nat), i ≤ n ∧ iv = .int .i64 i ∧ Hid (LsS w gl n cl xf xt X 0 NS a9 rs (ro5 (.slice (some ⟨xl, 0, none⟩) n xc) (.slice (some ⟨xf, 0, none⟩) n xcf) (.slice (some ⟨xt, 0, none⟩) n xct) st.sea 0) st.fl st.tk FS wr)) (fun iv _ => n - (intOf iv).toNat)
      case atStart => exact ⟨0, Nat.zero_le _, rfl, S9⟩
      case round =>
        obtain ⟨i, hi, rfl, hS⟩ := hrel
        clear S9
        by_cases hlt : i < n
        · have hltz : (i : Int) < (n : Int) := by omega
          obtain ⟨v0, v1, v2, _⟩ := HV.out.tk0 i hlt
          have HSI := Lib.hid (HSF.out i hlt)
          have g1 : ¬ (rs i).tk < st.tk i := by omega
          have g2 : ¬ st.tk i < 0 := by omega
          obtain ⟨bB, hbB⟩ := bool_of (∃ j, j < NS ∧ FS j = (i : Int))
          have HBB := Lib.hid hbB
          clear hbB
          by_cases hlss : st.tk i < (rs i).tk
          · obtain rfl : bB = true := HBB.out.2 (HSI.out.2 hlss)
            by_cases hpos : 0 < st.tk i
            · have g3 : ¬ st.fl i < (rs i).ls := by have := v2 hpos; omega
              go_wp2_with fail
              refine wp_region_held_drew (S := LsS w gl n cl xf xt X 0 NS a9 rs (ro5 (.slice (some ⟨xl, 0, none⟩) n xc) (.slice (some ⟨xf, 0, none⟩) n xcf) (.slice (some ⟨xt, 0, none⟩) n xct) st.sea 0) st.fl st.tk FS) (by kernel_rfl) (hS.out.below (Below.refl _ _).drew) (fun hHeld => ?_)
              clear hS
              refine take_do (i := 0) (v := (.pointer (some ⟨X, 2, none⟩))) rfl (by kernel_rfl) (by kernel_rfl) (by kernel_rfl) (fun _ _ _ h => h) (by rfl) ?_ (by assumption) ?_
              · intro w hSw
                clear hSw
                go_simp
              simp only [Act.put, List.setIfInBounds_toArray, List.set_cons_zero, List.set_cons_succ]
              refine take_do (i := 1) (v := (.slice (some ⟨xt, 0, none⟩) n xct)) rfl (by kernel_rfl) (by kernel_rfl) (by kernel_rfl) (fun _ _ _ h => h) (by rfl) ?_ (by assumption) ?_
              · intro w hSw
                obtain ⟨k1, k2, k3, k4, _⟩ := hSw
                obtain ⟨c0, c1, c2, c3, c4⟩ := k1 i hlt
                have d1 := k2.cell hlt
                have d2 := k3.cell hlt
                have y1 : w.cell? ⟨X, 1, none⟩ = some (.slice (some ⟨xf, 0, none⟩) n xcf) := k4.cell (i := 1) (by omega)
                have y2 : w.cell? ⟨X, 2, none⟩ = some (.slice (some ⟨xt, 0, none⟩) n xct) := k4.cell (i := 2) (by omega)
                clear k1 k2 k3 k4
                go_simp
              simp only [Act.put, List.setIfInBounds_toArray, List.set_cons_zero, List.set_cons_succ]
              refine take_do (i := 2) (v := (.int .i64 i)) rfl (by kernel_rfl) (by kernel_rfl) (by kernel_rfl) (fun _ _ _ h => h) (by rfl) ?_ (by assumption) ?_
              · intro w hSw
                clear hSw
                go_simp
              simp only [Act.put, List.setIfInBounds_toArray, List.set_cons_zero, List.set_cons_succ]
              refine take_do (i := 3) (v := (.pointer (some ⟨xt, i, none⟩))) rfl (by kernel_rfl) (by kernel_rfl) (by kernel_rfl) (fun _ _ _ h => h) (by rfl) ?_ (by assumption) ?_
              · intro w hSw
                clear hSw
                go_simp
              simp only [Act.put, List.setIfInBounds_toArray, List.set_cons_zero, List.set_cons_succ]
              refine take_do (i := 4) (v := (.int .i64 (st.tk i))) rfl (by kernel_rfl) (by kernel_rfl) (by kernel_rfl) (fun _ _ _ h => h) (by rfl) ?_ (by assumption) ?_
              · intro w hSw
                obtain ⟨k1, k2, k3, k4, _⟩ := hSw
                obtain ⟨c0, c1, c2, c3, c4⟩ := k1 i hlt
                have d1 := k2.cell hlt
                have d2 := k3.cell hlt
                have y1 : w.cell? ⟨X, 1, none⟩ = some (.slice (some ⟨xf, 0, none⟩) n xcf) := k4.cell (i := 1) (by omega)
                have y2 : w.cell? ⟨X, 2, none⟩ = some (.slice (some ⟨xt, 0, none⟩) n xct) := k4.cell (i := 2) (by omega)
                clear k1 k2 k3 k4
                go_simp
              simp only [Act.put, List.setIfInBounds_toArray, List.set_cons_zero, List.set_cons_succ]
              refine take_do (i := 5) (v := (.slice (some ⟨gl, 0, none⟩) n cl)) rfl (by kernel_rfl) (by kernel_rfl) (by kernel_rfl) (fun _ _ _ h => h) (by rfl) ?_ (by assumption) ?_
              · intro w hSw
                clear hSw
                go_simp
              simp only [Act.put, List.setIfInBounds_toArray, List.set_cons_zero, List.set_cons_succ]
              refine take_do (i := 6) (v := (.int .i64 i)) rfl (by kernel_rfl) (by kernel_rfl) (by kernel_rfl) (fun _ _ _ h => h) (by rfl) ?_ (by assumption) ?_
              · intro w hSw
                clear hSw
                go_simp
              simp only [Act.put, List.setIfInBounds_toArray, List.set_cons_zero, List.set_cons_succ]
              refine take_do (i := 7) (v := (.pointer (some ⟨gl, i * 5, none⟩))) rfl (by kernel_rfl) (by kernel_rfl) (by kernel_rfl) (fun _ _ _ h => h) (by rfl) ?_ (by assumption) ?_
              · intro w hSw
                clear hSw
                go_simp
              simp only [Act.put, List.setIfInBounds_toArray, List.set_cons_zero, List.set_cons_succ]
              refine take_do (i := 8) (v := (.pointer (some ⟨gl, i * 5 + 3, none⟩))) rfl (by kernel_rfl) (by kernel_rfl) (by kernel_rfl) (fun _ _ _ h => h) (by rfl) ?_ (by assumption) ?_
              · intro w hSw
                clear hSw
                go_simp
              simp only [Act.put, List.setIfInBounds_toArray, List.set_cons_zero, List.set_cons_succ]
              refine take_do (i := 9) (v := (.int .i64 (rs i).tk)) rfl (by kernel_rfl) (by kernel_rfl) (by kernel_rfl) (fun _ _ _ h => h) (by rfl) ?_ (by assumption) ?_
              · intro w hSw
                obtain ⟨k1, k2, k3, k4, _⟩ := hSw
                obtain ⟨c0, c1, c2, c3, c4⟩ := k1 i hlt
                have d1 := k2.cell hlt
                have d2 := k3.cell hlt
                have y1 : w.cell? ⟨X, 1, none⟩ = some (.slice (some ⟨xf, 0, none⟩) n xcf) := k4.cell (i := 1) (by omega)
                have y2 : w.cell? ⟨X, 2, none⟩ = some (.slice (some ⟨xt, 0, none⟩) n xct) := k4.cell (i := 2) (by omega)
                clear k1 k2 k3 k4
                go_simp
              simp only [Act.put, List.setIfInBounds_toArray, List.set_cons_zero, List.set_cons_succ]
              refine take_do (i := 10) (v := (.bool false)) rfl (by kernel_rfl) (by kernel_rfl) (by kernel_rfl) (fun _ _ _ h => h) (by rfl) ?_ (by assumption) ?_
              · intro w hSw
                clear hSw
                go_simp
              simp only [Act.put, List.setIfInBounds_toArray, List.set_cons_zero, List.set_cons_succ]
              refine take_do (i := 11) (v := (.bool false)) rfl (by kernel_rfl) (by kernel_rfl) (by kernel_rfl) (fun _ _ _ h => h) (by rfl) ?_ (by assumption) ?_
              · intro w hSw
                clear hSw
                go_simp
              simp only [Act.put, List.setIfInBounds_toArray, List.set_cons_zero, List.set_cons_succ]
              refine take_do (i := 12) (v := (.pointer (some ⟨X, 2, none⟩))) rfl (by kernel_rfl) (by kernel_rfl) (by kernel_rfl) (fun _ _ _ h => h) (by rfl) ?_ (by assumption) ?_
              · intro w hSw
                clear hSw
                go_simp
              simp only [Act.put, List.setIfInBounds_toArray, List.set_cons_zero, List.set_cons_succ]
              refine take_do (i := 13) (v := (.slice (some ⟨xt, 0, none⟩) n xct)) rfl (by kernel_rfl) (by kernel_rfl) (by kernel_rfl) (fun _ _ _ h => h) (by rfl) ?_ (by assumption) ?_
              · intro w hSw
                obtain ⟨k1, k2, k3, k4, _⟩ := hSw
                obtain ⟨c0, c1, c2, c3, c4⟩ := k1 i hlt
                have d1 := k2.cell hlt
                have d2 := k3.cell hlt
                have y1 : w.cell? ⟨X, 1, none⟩ = some (.slice (some ⟨xf, 0, none⟩) n xcf) := k4.cell (i := 1) (by omega)
                have y2 : w.cell? ⟨X, 2, none⟩ = some (.slice (some ⟨xt, 0, none⟩) n xct) := k4.cell (i := 2) (by omega)
                clear k1 k2 k3 k4
                go_simp
              simp only [Act.put, List.setIfInBounds_toArray, List.set_cons_zero, List.set_cons_succ]
              refine take_do (i := 14) (v := (.int .i64 i)) rfl (by kernel_rfl) (by kernel_rfl) (by kernel_rfl) (fun _ _ _ h => h) (by rfl) ?_ (by assumption) ?_
              · intro w hSw
                clear hSw
                go_simp
              simp only [Act.put, List.setIfInBounds_toArray, List.set_cons_zero, List.set_cons_succ]
              refine take_do (i := 15) (v := (.pointer (some ⟨xt, i, none⟩))) rfl (by kernel_rfl) (by kernel_rfl) (by kernel_rfl) (fun _ _ _ h => h) (by rfl) ?_ (by assumption) ?_
              · intro w hSw
                clear hSw
                go_simp
              simp only [Act.put, List.setIfInBounds_toArray, List.set_cons_zero, List.set_cons_succ]
              refine take_do (i := 16) (v := (.int .i64 (st.tk i))) rfl (by kernel_rfl) (by kernel_rfl) (by kernel_rfl) (fun _ _ _ h => h) (by rfl) ?_ (by assumption) ?_
              · intro w hSw
                obtain ⟨k1, k2, k3, k4, _⟩ := hSw
                obtain ⟨c0, c1, c2, c3, c4⟩ := k1 i hlt
                have d1 := k2.cell hlt
                have d2 := k3.cell hlt
                have y1 : w.cell? ⟨X, 1, none⟩ = some (.slice (some ⟨xf, 0, none⟩) n xcf) := k4.cell (i := 1) (by omega)
                have y2 : w.cell? ⟨X, 2, none⟩ = some (.slice (some ⟨xt, 0, none⟩) n xct) := k4.cell (i := 2) (by omega)
                clear k1 k2 k3 k4
                go_simp
              simp only [Act.put, List.setIfInBounds_toArray, List.set_cons_zero, List.set_cons_succ]
              refine take_do (i := 17) (v := (.bool false)) rfl (by kernel_rfl) (by kernel_rfl) (by kernel_rfl) (fun _ _ _ h => h) (by rfl) ?_ (by assumption) ?_
              · intro w hSw
                clear hSw
                go_simp
              simp only [Act.put, List.setIfInBounds_toArray, List.set_cons_zero, List.set_cons_succ]
              refine take_do (i := 18) (v := (.bool false)) rfl (by kernel_rfl) (by kernel_rfl) (by kernel_rfl) (fun _ _ _ h => h) (by rfl) ?_ (by assumption) ?_
              · intro w hSw
                clear hSw
                go_simp
              simp only [Act.put, List.setIfInBounds_toArray, List.set_cons_zero, List.set_cons_succ]
              refine take_do (i := 19) (v := (.bool false)) rfl (by kernel_rfl) (by kernel_rfl) (by kernel_rfl) (fun _ _ _ h => h) (by rfl) ?_ (by assumption) ?_
              · intro w hSw
                clear hSw
                go_simp
              simp only [Act.put, List.setIfInBounds_toArray, List.set_cons_zero, List.set_cons_succ]
              refine take_do (i := 20) (v := (.pointer (some ⟨X, 2, none⟩))) rfl (by kernel_rfl) (by kernel_rfl) (by kernel_rfl) (fun _ _ _ h => h) (by rfl) ?_ (by assumption) ?_
              · intro w hSw
                clear hSw
                go_simp
              simp only [Act.put, List.setIfInBounds_toArray, List.set_cons_zero, List.set_cons_succ]
              refine take_do (i := 21) (v := (.slice (some ⟨xt, 0, none⟩) n xct)) rfl (by kernel_rfl) (by kernel_rfl) (by kernel_rfl) (fun _ _ _ h => h) (by rfl) ?_ (by assumption) ?_
              · intro w hSw
                obtain ⟨k1, k2, k3, k4, _⟩ := hSw
                obtain ⟨c0, c1, c2, c3, c4⟩ := k1 i hlt
                have d1 := k2.cell hlt
                have d2 := k3.cell hlt
                have y1 : w.cell? ⟨X, 1, none⟩ = some (.slice (some ⟨xf, 0, none⟩) n xcf) := k4.cell (i := 1) (by omega)
                have y2 : w.cell? ⟨X, 2, none⟩ = some (.slice (some ⟨xt, 0, none⟩) n xct) := k4.cell (i := 2) (by omega)
                clear k1 k2 k3 k4
                go_simp
              simp only [Act.put, List.setIfInBounds_toArray, List.set_cons_zero, List.set_cons_succ]
              refine take_do (i := 22) (v := (.int .i64 i)) rfl (by kernel_rfl) (by kernel_rfl) (by kernel_rfl) (fun _ _ _ h => h) (by rfl) ?_ (by assumption) ?_
              · intro w hSw
                clear hSw
                go_simp
              simp only [Act.put, List.setIfInBounds_toArray, List.set_cons_zero, List.set_cons_succ]
              refine take_do (i := 23) (v := (.pointer (some ⟨xt, i, none⟩))) rfl (by kernel_rfl) (by kernel_rfl) (by kernel_rfl) (fun _ _ _ h => h) (by rfl) ?_ (by assumption) ?_
              · intro w hSw
                clear hSw
                go_simp
              simp only [Act.put, List.setIfInBounds_toArray, List.set_cons_zero, List.set_cons_succ]
              refine take_do (i := 24) (v := (.int .i64 (st.tk i))) rfl (by kernel_rfl) (by kernel_rfl) (by kernel_rfl) (fun _ _ _ h => h) (by rfl) ?_ (by assumption) ?_
              · intro w hSw
                obtain ⟨k1, k2, k3, k4, _⟩ := hSw
                obtain ⟨c0, c1, c2, c3, c4⟩ := k1 i hlt
                have d1 := k2.cell hlt
                have d2 := k3.cell hlt
                have y1 : w.cell? ⟨X, 1, none⟩ = some (.slice (some ⟨xf, 0, none⟩) n xcf) := k4.cell (i := 1) (by omega)
                have y2 : w.cell? ⟨X, 2, none⟩ = some (.slice (some ⟨xt, 0, none⟩) n xct) := k4.cell (i := 2) (by omega)
                clear k1 k2 k3 k4
                go_simp
              simp only [Act.put, List.setIfInBounds_toArray, List.set_cons_zero, List.set_cons_succ]
              refine take_do (i := 25) (v := (.bool true)) rfl (by kernel_rfl) (by kernel_rfl) (by kernel_rfl) (fun _ _ _ h => h) (by rfl) ?_ (by assumption) ?_
              · intro w hSw
                clear hSw
                go_simp
              simp only [Act.put, List.setIfInBounds_toArray, List.set_cons_zero, List.set_cons_succ]
              refine take_do (i := 26) (v := (.bool true)) rfl (by kernel_rfl) (by kernel_rfl) (by kernel_rfl) (fun _ _ _ h => h) (by rfl) ?_ (by assumption) ?_
              · intro w hSw
                clear hSw
                go_simp
              simp only [Act.put, List.setIfInBounds_toArray, List.set_cons_zero, List.set_cons_succ]
              refine take_do (i := 27) (v := (.pointer (some ⟨X, 1, none⟩))) rfl (by kernel_rfl) (by kernel_rfl) (by kernel_rfl) (fun _ _ _ h => h) (by rfl) ?_ (by assumption) ?_
              · intro w hSw
                clear hSw
                go_simp
              simp only [Act.put, List.setIfInBounds_toArray, List.set_cons_zero, List.set_cons_succ]
              refine take_do (i := 28) (v := (.slice (some ⟨xf, 0, none⟩) n xcf)) rfl (by kernel_rfl) (by kernel_rfl) (by kernel_rfl) (fun _ _ _ h => h) (by rfl) ?_ (by assumption) ?_
              · intro w hSw
                obtain ⟨k1, k2, k3, k4, _⟩ := hSw
                obtain ⟨c0, c1, c2, c3, c4⟩ := k1 i hlt
                have d1 := k2.cell hlt
                have d2 := k3.cell hlt
                have y1 : w.cell? ⟨X, 1, none⟩ = some (.slice (some ⟨xf, 0, none⟩) n xcf) := k4.cell (i := 1) (by omega)
                have y2 : w.cell? ⟨X, 2, none⟩ = some (.slice (some ⟨xt, 0, none⟩) n xct) := k4.cell (i := 2) (by omega)
                clear k1 k2 k3 k4
                go_simp
              simp only [Act.put, List.setIfInBounds_toArray, List.set_cons_zero, List.set_cons_succ]
              refine take_do (i := 29) (v := (.int .i64 i)) rfl (by kernel_rfl) (by kernel_rfl) (by kernel_rfl) (fun _ _ _ h => h) (by rfl) ?_ (by assumption) ?_
              · intro w hSw
                clear hSw
                go_simp
              simp only [Act.put, List.setIfInBounds_toArray, List.set_cons_zero, List.set_cons_succ]
              refine take_do (i := 30) (v := (.pointer (some ⟨xf, i, none⟩))) rfl (by kernel_rfl) (by kernel_rfl) (by kernel_rfl) (fun _ _ _ h => h) (by rfl) ?_ (by assumption) ?_
              · intro w hSw
                clear hSw
                go_simp
              simp only [Act.put, List.setIfInBounds_toArray, List.set_cons_zero, List.set_cons_succ]
              refine take_do (i := 31) (v := (.int .i64 (st.fl i))) rfl (by kernel_rfl) (by kernel_rfl) (by kernel_rfl) (fun _ _ _ h => h) (by rfl) ?_ (by assumption) ?_
              · intro w hSw
                obtain ⟨k1, k2, k3, k4, _⟩ := hSw
                obtain ⟨c0, c1, c2, c3, c4⟩ := k1 i hlt
                have d1 := k2.cell hlt
                have d2 := k3.cell hlt
                have y1 : w.cell? ⟨X, 1, none⟩ = some (.slice (some ⟨xf, 0, none⟩) n xcf) := k4.cell (i := 1) (by omega)
                have y2 : w.cell? ⟨X, 2, none⟩ = some (.slice (some ⟨xt, 0, none⟩) n xct) := k4.cell (i := 2) (by omega)
                clear k1 k2 k3 k4
                go_simp
              simp only [Act.put, List.setIfInBounds_toArray, List.set_cons_zero, List.set_cons_succ]
              refine take_do (i := 32) (v := (.slice (some ⟨gl, 0, none⟩) n cl)) rfl (by kernel_rfl) (by kernel_rfl) (by kernel_rfl) (fun _ _ _ h => h) (by rfl) ?_ (by assumption) ?_
              · intro w hSw
                clear hSw
                go_simp
              simp only [Act.put, List.setIfInBounds_toArray, List.set_cons_zero, List.set_cons_succ]
              refine take_do (i := 33) (v := (.int .i64 i)) rfl (by kernel_rfl) (by kernel_rfl) (by kernel_rfl) (fun _ _ _ h => h) (by rfl) ?_ (by assumption) ?_
              · intro w hSw
                clear hSw
                go_simp
              simp only [Act.put, List.setIfInBounds_toArray, List.set_cons_zero, List.set_cons_succ]
              refine take_do (i := 34) (v := (.pointer (some ⟨gl, i * 5, none⟩))) rfl (by kernel_rfl) (by kernel_rfl) (by kernel_rfl) (fun _ _ _ h => h) (by rfl) ?_ (by assumption) ?_
              · intro w hSw
                clear hSw
                go_simp
              simp only [Act.put, List.setIfInBounds_toArray, List.set_cons_zero, List.set_cons_succ]
              refine take_do (i := 35) (v := (.pointer (some ⟨gl, i * 5 + 4, none⟩))) rfl (by kernel_rfl) (by kernel_rfl) (by kernel_rfl) (fun _ _ _ h => h) (by rfl) ?_ (by assumption) ?_
              · intro w hSw
                clear hSw
                go_simp
              simp only [Act.put, List.setIfInBounds_toArray, List.set_cons_zero, List.set_cons_succ]
              refine take_do (i := 36) (v := (.int .i64 (rs i).ls)) rfl (by kernel_rfl) (by kernel_rfl) (by kernel_rfl) (fun _ _ _ h => h) (by rfl) ?_ (by assumption) ?_
              · intro w hSw
                obtain ⟨k1, k2, k3, k4, _⟩ := hSw
                obtain ⟨c0, c1, c2, c3, c4⟩ := k1 i hlt
                have d1 := k2.cell hlt
                have d2 := k3.cell hlt
                have y1 : w.cell? ⟨X, 1, none⟩ = some (.slice (some ⟨xf, 0, none⟩) n xcf) := k4.cell (i := 1) (by omega)
                have y2 : w.cell? ⟨X, 2, none⟩ = some (.slice (some ⟨xt, 0, none⟩) n xct) := k4.cell (i := 2) (by omega)
                clear k1 k2 k3 k4
                go_simp
              simp only [Act.put, List.setIfInBounds_toArray, List.set_cons_zero, List.set_cons_succ]
              refine take_do (i := 37) (v := (.bool false)) rfl (by kernel_rfl) (by kernel_rfl) (by kernel_rfl) (fun _ _ _ h => h) (by rfl) ?_ (by assumption) ?_
              · intro w hSw
                clear hSw
                go_simp
              simp only [Act.put, List.setIfInBounds_toArray, List.set_cons_zero, List.set_cons_succ]
              refine take_do (i := 38) (v := (.bool false)) rfl (by kernel_rfl) (by kernel_rfl) (by kernel_rfl) (fun _ _ _ h => h) (by rfl) ?_ (by assumption) ?_
              · intro w hSw
                clear hSw
                go_simp
              simp only [Act.put, List.setIfInBounds_toArray, List.set_cons_zero, List.set_cons_succ]
              refine take_do (i := 39) (v := (.bool false)) rfl (by kernel_rfl) (by kernel_rfl) (by kernel_rfl) (fun _ _ _ h => h) (by rfl) ?_ (by assumption) ?_
              · intro w hSw
                clear hSw
                go_simp
              simp only [Act.put, List.setIfInBounds_toArray, List.set_cons_zero, List.set_cons_succ]
              refine take_do (i := 40) (v := (.bool false)) rfl (by kernel_rfl) (by kernel_rfl) (by kernel_rfl) (fun _ _ _ h => h) (by rfl) ?_ (by assumption) ?_
              · intro w hSw
                clear hSw
                go_simp
              simp only [Act.put, List.setIfInBounds_toArray, List.set_cons_zero, List.set_cons_succ]
              refine take_do (i := 41) (v := (.slice a9 NS c9)) rfl (by kernel_rfl) (by kernel_rfl) (by kernel_rfl) (fun _ _ _ h => h) (by rfl) ?_ (by assumption) ?_
              · intro w hSw
                clear hSw
                go_simp
              simp only [Act.put, List.setIfInBounds_toArray, List.set_cons_zero, List.set_cons_succ]
              refine take_do (i := 42) (v := (.int .i64 i)) rfl (by kernel_rfl) (by kernel_rfl) (by kernel_rfl) (fun _ _ _ h => h) (by rfl) ?_ (by assumption) ?_
              · intro w hSw
                clear hSw
                go_simp
              simp only [Act.put, List.setIfInBounds_toArray, List.set_cons_zero, List.set_cons_succ]
              refine take_do (i := 44) (v := (.pointer (some ⟨X, 2, none⟩))) rfl (by kernel_rfl) (by kernel_rfl) (by kernel_rfl) (fun _ _ _ h => h) (by rfl) ?_ (by assumption) ?_
              · intro w hSw
                clear hSw
                go_simp
              simp only [Act.put, List.setIfInBounds_toArray, List.set_cons_zero, List.set_cons_succ]
              refine take_do (i := 45) (v := (.slice (some ⟨xt, 0, none⟩) n xct)) rfl (by kernel_rfl) (by kernel_rfl) (by kernel_rfl) (fun _ _ _ h => h) (by rfl) ?_ (by assumption) ?_
              · intro w hSw
                obtain ⟨k1, k2, k3, k4, _⟩ := hSw
                obtain ⟨c0, c1, c2, c3, c4⟩ := k1 i hlt
                have d1 := k2.cell hlt
                have d2 := k3.cell hlt
                have y1 : w.cell? ⟨X, 1, none⟩ = some (.slice (some ⟨xf, 0, none⟩) n xcf) := k4.cell (i := 1) (by omega)
                have y2 : w.cell? ⟨X, 2, none⟩ = some (.slice (some ⟨xt, 0, none⟩) n xct) := k4.cell (i := 2) (by omega)
                clear k1 k2 k3 k4
                go_simp
              simp only [Act.put, List.setIfInBounds_toArray, List.set_cons_zero, List.set_cons_succ]
              refine take_do (i := 46) (v := (.int .i64 i)) rfl (by kernel_rfl) (by kernel_rfl) (by kernel_rfl) (fun _ _ _ h => h) (by rfl) ?_ (by assumption) ?_
              · intro w hSw
                clear hSw
                go_simp
              simp only [Act.put, List.setIfInBounds_toArray, List.set_cons_zero, List.set_cons_succ]
              refine take_do (i := 47) (v := (.pointer (some ⟨xt, i, none⟩))) rfl (by kernel_rfl) (by kernel_rfl) (by kernel_rfl) (fun _ _ _ h => h) (by rfl) ?_ (by assumption) ?_
              · intro w hSw
                clear hSw
                go_simp
              simp only [Act.put, List.setIfInBounds_toArray, List.set_cons_zero, List.set_cons_succ]
              refine take_do (i := 48) (v := (.int .i64 (st.tk i))) rfl (by kernel_rfl) (by kernel_rfl) (by kernel_rfl) (fun _ _ _ h => h) (by rfl) ?_ (by assumption) ?_
              · intro w hSw
                obtain ⟨k1, k2, k3, k4, _⟩ := hSw
                obtain ⟨c0, c1, c2, c3, c4⟩ := k1 i hlt
                have d1 := k2.cell hlt
                have d2 := k3.cell hlt
                have y1 : w.cell? ⟨X, 1, none⟩ = some (.slice (some ⟨xf, 0, none⟩) n xcf) := k4.cell (i := 1) (by omega)
                have y2 : w.cell? ⟨X, 2, none⟩ = some (.slice (some ⟨xt, 0, none⟩) n xct) := k4.cell (i := 2) (by omega)
                clear k1 k2 k3 k4
                go_simp
              simp only [Act.put, List.setIfInBounds_toArray, List.set_cons_zero, List.set_cons_succ]
              refine take_do (i := 49) (v := (.slice (some ⟨gl, 0, none⟩) n cl)) rfl (by kernel_rfl) (by kernel_rfl) (by kernel_rfl) (fun _ _ _ h => h) (by rfl) ?_ (by assumption) ?_
              · intro w hSw
                clear hSw
                go_simp
              simp only [Act.put, List.setIfInBounds_toArray, List.set_cons_zero, List.set_cons_succ]
              refine take_do (i := 50) (v := (.int .i64 i)) rfl (by kernel_rfl) (by kernel_rfl) (by kernel_rfl) (fun _ _ _ h => h) (by rfl) ?_ (by assumption) ?_
              · intro w hSw
                clear hSw
                go_simp
              simp only [Act.put, List.setIfInBounds_toArray, List.set_cons_zero, List.set_cons_succ]
              refine take_do (i := 51) (v := (.pointer (some ⟨gl, i * 5, none⟩))) rfl (by kernel_rfl) (by kernel_rfl) (by kernel_rfl) (fun _ _ _ h => h) (by rfl) ?_ (by assumption) ?_
              · intro w hSw
                clear hSw
                go_simp
              simp only [Act.put, List.setIfInBounds_toArray, List.set_cons_zero, List.set_cons_succ]
              refine take_do (i := 52) (v := (.pointer (some ⟨gl, i * 5 + 3, none⟩))) rfl (by kernel_rfl) (by kernel_rfl) (by kernel_rfl) (fun _ _ _ h => h) (by rfl) ?_ (by assumption) ?_
              · intro w hSw
                clear hSw
                go_simp
              simp only [Act.put, List.setIfInBounds_toArray, List.set_cons_zero, List.set_cons_succ]
              refine take_do (i := 53) (v := (.int .i64 (rs i).tk)) rfl (by kernel_rfl) (by kernel_rfl) (by kernel_rfl) (fun _ _ _ h => h) (by rfl) ?_ (by assumption) ?_
              · intro w hSw
                obtain ⟨k1, k2, k3, k4, _⟩ := hSw
                obtain ⟨c0, c1, c2, c3, c4⟩ := k1 i hlt
                have d1 := k2.cell hlt
                have d2 := k3.cell hlt
                have y1 : w.cell? ⟨X, 1, none⟩ = some (.slice (some ⟨xf, 0, none⟩) n xcf) := k4.cell (i := 1) (by omega)
                have y2 : w.cell? ⟨X, 2, none⟩ = some (.slice (some ⟨xt, 0, none⟩) n xct) := k4.cell (i := 2) (by omega)
                clear k1 k2 k3 k4
                go_simp
              simp only [Act.put, List.setIfInBounds_toArray, List.set_cons_zero, List.set_cons_succ]
              refine take_do (i := 54) (v := (.bool true)) rfl (by kernel_rfl) (by kernel_rfl) (by kernel_rfl) (fun _ _ _ h => h) (by rfl) ?_ (by assumption) ?_
              · intro w hSw
                clear hSw
                go_simp
              simp only [Act.put, List.setIfInBounds_toArray, List.set_cons_zero, List.set_cons_succ]
              refine take_call (i := 43) rfl (by kernel_rfl) (fun K2 hK => ?_)
              go_simp
              refine (lwHas_any a9 NS c9 FS (i : Int) _ hHeld.2.2.2.2.1 hsl true (by have := HBB.out; simpa using this)).mono ?_
              rintro e w' ⟨rfl, rfl⟩
              go_wp2_with fail
              refine hK.out _ _ hHeld (fun hHeld2 => ?_)
              clear hK hHeld
              have hHeld := hHeld2
              clear hHeld2
              refine take_do (i := 55) (v := (.bool false)) rfl (by kernel_rfl) (by kernel_rfl) (by kernel_rfl) (fun _ _ _ h => h) (by rfl) ?_ (by assumption) ?_
              · intro w hSw
                clear hSw
                go_simp
              simp only [Act.put, List.setIfInBounds_toArray, List.set_cons_zero, List.set_cons_succ]
              refine take_do (i := 56) (v := (.bool false)) rfl (by kernel_rfl) (by kernel_rfl) (by kernel_rfl) (fun _ _ _ h => h) (by rfl) ?_ (by assumption) ?_
              · intro w hSw
                clear hSw
                go_simp
              simp only [Act.put, List.setIfInBounds_toArray, List.set_cons_zero, List.set_cons_succ]
              refine wpAnyH_done (by kernel_rfl) ?_ _
              have S2 := Lib.hid hHeld
              clear hHeld
              go_wp2_with fail
              go_roundw
              case rel => exact ⟨i + 1, by omega, by go_num, S2⟩
              case measure => simp [intOf]; omega
            · go_wp2_with fail
              refine wp_region_held_drew (S := LsS w gl n cl xf xt X 0 NS a9 rs (ro5 (.slice (some ⟨xl, 0, none⟩) n xc) (.slice (some ⟨xf, 0, none⟩) n xcf) (.slice (some ⟨xt, 0, none⟩) n xct) st.sea 0) st.fl st.tk FS) (by kernel_rfl) (hS.out.below (Below.refl _ _).drew) (fun hHeld => ?_)
              clear hS
              refine take_do (i := 0) (v := (.pointer (some ⟨X, 2, none⟩))) rfl (by kernel_rfl) (by kernel_rfl) (by kernel_rfl) (fun _ _ _ h => h) (by rfl) ?_ (by assumption) ?_
              · intro w hSw
                clear hSw
                go_simp
              simp only [Act.put, List.setIfInBounds_toArray, List.set_cons_zero, List.set_cons_succ]
              refine take_do (i := 1) (v := (.slice (some ⟨xt, 0, none⟩) n xct)) rfl (by kernel_rfl) (by kernel_rfl) (by kernel_rfl) (fun _ _ _ h => h) (by rfl) ?_ (by assumption) ?_
              · intro w hSw
                obtain ⟨k1, k2, k3, k4, _⟩ := hSw
                obtain ⟨c0, c1, c2, c3, c4⟩ := k1 i hlt
                have d1 := k2.cell hlt
                have d2 := k3.cell hlt
                have y1 : w.cell? ⟨X, 1, none⟩ = some (.slice (some ⟨xf, 0, none⟩) n xcf) := k4.cell (i := 1) (by omega)
                have y2 : w.cell? ⟨X, 2, none⟩ = some (.slice (some ⟨xt, 0, none⟩) n xct) := k4.cell (i := 2) (by omega)
                clear k1 k2 k3 k4
                go_simp
              simp only [Act.put, List.setIfInBounds_toArray, List.set_cons_zero, List.set_cons_succ]
              refine take_do (i := 2) (v := (.int .i64 i)) rfl (by kernel_rfl) (by kernel_rfl) (by kernel_rfl) (fun _ _ _ h => h) (by rfl) ?_ (by assumption) ?_
              · intro w hSw
                clear hSw
                go_simp
              simp only [Act.put, List.setIfInBounds_toArray, List.set_cons_zero, List.set_cons_succ]
              refine take_do (i := 3) (v := (.pointer (some ⟨xt, i, none⟩))) rfl (by kernel_rfl) (by kernel_rfl) (by kernel_rfl) (fun _ _ _ h => h) (by rfl) ?_ (by assumption) ?_
              · intro w hSw
                clear hSw
                go_simp
              simp only [Act.put, List.setIfInBounds_toArray, List.set_cons_zero, List.set_cons_succ]
              refine take_do (i := 4) (v := (.int .i64 (st.tk i))) rfl (by kernel_rfl) (by kernel_rfl) (by kernel_rfl) (fun _ _ _ h => h) (by rfl) ?_ (by assumption) ?_
              · intro w hSw
                obtain ⟨k1, k2, k3, k4, _⟩ := hSw
                obtain ⟨c0, c1, c2, c3, c4⟩ := k1 i hlt
                have d1 := k2.cell hlt
                have d2 := k3.cell hlt
                have y1 : w.cell? ⟨X, 1, none⟩ = some (.slice (some ⟨xf, 0, none⟩) n xcf) := k4.cell (i := 1) (by omega)
                have y2 : w.cell? ⟨X, 2, none⟩ = some (.slice (some ⟨xt, 0, none⟩) n xct) := k4.cell (i := 2) (by omega)
                clear k1 k2 k3 k4
                go_simp
              simp only [Act.put, List.setIfInBounds_toArray, List.set_cons_zero, List.set_cons_succ]
              refine take_do (i := 5) (v := (.slice (some ⟨gl, 0, none⟩) n cl)) rfl (by kernel_rfl) (by kernel_rfl) (by kernel_rfl) (fun _ _ _ h => h) (by rfl) ?_ (by assumption) ?_
              · intro w hSw
                clear hSw
                go_simp
              simp only [Act.put, List.setIfInBounds_toArray, List.set_cons_zero, List.set_cons_succ]
              refine take_do (i := 6) (v := (.int .i64 i)) rfl (by kernel_rfl) (by kernel_rfl) (by kernel_rfl) (fun _ _ _ h => h) (by rfl) ?_ (by assumption) ?_
              · intro w hSw
                clear hSw
                go_simp
              simp only [Act.put, List.setIfInBounds_toArray, List.set_cons_zero, List.set_cons_succ]
              refine take_do (i := 7) (v := (.pointer (some ⟨gl, i * 5, none⟩))) rfl (by kernel_rfl) (by kernel_rfl) (by kernel_rfl) (fun _ _ _ h => h) (by rfl) ?_ (by assumption) ?_
              · intro w hSw
                clear hSw
                go_simp
              simp only [Act.put, List.setIfInBounds_toArray, List.set_cons_zero, List.set_cons_succ]
              refine take_do (i := 8) (v := (.pointer (some ⟨gl, i * 5 + 3, none⟩))) rfl (by kernel_rfl) (by kernel_rfl) (by kernel_rfl) (fun _ _ _ h => h) (by rfl) ?_ (by assumption) ?_
              · intro w hSw
                clear hSw
                go_simp
              simp only [Act.put, List.setIfInBounds_toArray, List.set_cons_zero, List.set_cons_succ]
              refine take_do (i := 9) (v := (.int .i64 (rs i).tk)) rfl (by kernel_rfl) (by kernel_rfl) (by kernel_rfl) (fun _ _ _ h => h) (by rfl) ?_ (by assumption) ?_
              · intro w hSw
                obtain ⟨k1, k2, k3, k4, _⟩ := hSw
                obtain ⟨c0, c1, c2, c3, c4⟩ := k1 i hlt
                have d1 := k2.cell hlt
                have d2 := k3.cell hlt
                have y1 : w.cell? ⟨X, 1, none⟩ = some (.slice (some ⟨xf, 0, none⟩) n xcf) := k4.cell (i := 1) (by omega)
                have y2 : w.cell? ⟨X, 2, none⟩ = some (.slice (some ⟨xt, 0, none⟩) n xct) := k4.cell (i := 2) (by omega)
                clear k1 k2 k3 k4
                go_simp
              simp only [Act.put, List.setIfInBounds_toArray, List.set_cons_zero, List.set_cons_succ]
              refine take_do (i := 10) (v := (.bool false)) rfl (by kernel_rfl) (by kernel_rfl) (by kernel_rfl) (fun _ _ _ h => h) (by rfl) ?_ (by assumption) ?_
              · intro w hSw
                clear hSw
                go_simp
              simp only [Act.put, List.setIfInBounds_toArray, List.set_cons_zero, List.set_cons_succ]
              refine take_do (i := 11) (v := (.bool false)) rfl (by kernel_rfl) (by kernel_rfl) (by kernel_rfl) (fun _ _ _ h => h) (by rfl) ?_ (by assumption) ?_
              · intro w hSw
                clear hSw
                go_simp
              simp only [Act.put, List.setIfInBounds_toArray, List.set_cons_zero, List.set_cons_succ]
              refine take_do (i := 12) (v := (.pointer (some ⟨X, 2, none⟩))) rfl (by kernel_rfl) (by kernel_rfl) (by kernel_rfl) (fun _ _ _ h => h) (by rfl) ?_ (by assumption) ?_
              · intro w hSw
                clear hSw
                go_simp
              simp only [Act.put, List.setIfInBounds_toArray, List.set_cons_zero, List.set_cons_succ]
              refine take_do (i := 13) (v := (.slice (some ⟨xt, 0, none⟩) n xct)) rfl (by kernel_rfl) (by kernel_rfl) (by kernel_rfl) (fun _ _ _ h => h) (by rfl) ?_ (by assumption) ?_
              · intro w hSw
                obtain ⟨k1, k2, k3, k4, _⟩ := hSw
                obtain ⟨c0, c1, c2, c3, c4⟩ := k1 i hlt
                have d1 := k2.cell hlt
                have d2 := k3.cell hlt
                have y1 : w.cell? ⟨X, 1, none⟩ = some (.slice (some ⟨xf, 0, none⟩) n xcf) := k4.cell (i := 1) (by omega)
                have y2 : w.cell? ⟨X, 2, none⟩ = some (.slice (some ⟨xt, 0, none⟩) n xct) := k4.cell (i := 2) (by omega)
                clear k1 k2 k3 k4
                go_simp
              simp only [Act.put, List.setIfInBounds_toArray, List.set_cons_zero, List.set_cons_succ]
              refine take_do (i := 14) (v := (.int .i64 i)) rfl (by kernel_rfl) (by kernel_rfl) (by kernel_rfl) (fun _ _ _ h => h) (by rfl) ?_ (by assumption) ?_
              · intro w hSw
                clear hSw
                go_simp
              simp only [Act.put, List.setIfInBounds_toArray, List.set_cons_zero, List.set_cons_succ]
              refine take_do (i := 15) (v := (.pointer (some ⟨xt, i, none⟩))) rfl (by kernel_rfl) (by kernel_rfl) (by kernel_rfl) (fun _ _ _ h => h) (by rfl) ?_ (by assumption) ?_
              · intro w hSw
                clear hSw
                go_simp
              simp only [Act.put, List.setIfInBounds_toArray, List.set_cons_zero, List.set_cons_succ]
              refine take_do (i := 16) (v := (.int .i64 (st.tk i))) rfl (by kernel_rfl) (by kernel_rfl) (by kernel_rfl) (fun _ _ _ h => h) (by rfl) ?_ (by assumption) ?_
              · intro w hSw
                obtain ⟨k1, k2, k3, k4, _⟩ := hSw
                obtain ⟨c0, c1, c2, c3, c4⟩ := k1 i hlt
                have d1 := k2.cell hlt
                have d2 := k3.cell hlt
                have y1 : w.cell? ⟨X, 1, none⟩ = some (.slice (some ⟨xf, 0, none⟩) n xcf) := k4.cell (i := 1) (by omega)
                have y2 : w.cell? ⟨X, 2, none⟩ = some (.slice (some ⟨xt, 0, none⟩) n xct) := k4.cell (i := 2) (by omega)
                clear k1 k2 k3 k4
                go_simp
              simp only [Act.put, List.setIfInBounds_toArray, List.set_cons_zero, List.set_cons_succ]
              refine take_do (i := 17) (v := (.bool false)) rfl (by kernel_rfl) (by kernel_rfl) (by kernel_rfl) (fun _ _ _ h => h) (by rfl) ?_ (by assumption) ?_
              · intro w hSw
                clear hSw
                go_simp
              simp only [Act.put, List.setIfInBounds_toArray, List.set_cons_zero, List.set_cons_succ]
              refine take_do (i := 18) (v := (.bool false)) rfl (by kernel_rfl) (by kernel_rfl) (by kernel_rfl) (fun _ _ _ h => h) (by rfl) ?_ (by assumption) ?_
              · intro w hSw
                clear hSw
                go_simp
              simp only [Act.put, List.setIfInBounds_toArray, List.set_cons_zero, List.set_cons_succ]
              refine take_do (i := 19) (v := (.bool false)) rfl (by kernel_rfl) (by kernel_rfl) (by kernel_rfl) (fun _ _ _ h => h) (by rfl) ?_ (by assumption) ?_
              · intro w hSw
                clear hSw
                go_simp
              simp only [Act.put, List.setIfInBounds_toArray, List.set_cons_zero, List.set_cons_succ]
              refine take_do (i := 20) (v := (.pointer (some ⟨X, 2, none⟩))) rfl (by kernel_rfl) (by kernel_rfl) (by kernel_rfl) (fun _ _ _ h => h) (by rfl) ?_ (by assumption) ?_
              · intro w hSw
                clear hSw
                go_simp
              simp only [Act.put, List.setIfInBounds_toArray, List.set_cons_zero, List.set_cons_succ]
              refine take_do (i := 21) (v := (.slice (some ⟨xt, 0, none⟩) n xct)) rfl (by kernel_rfl) (by kernel_rfl) (by kernel_rfl) (fun _ _ _ h => h) (by rfl) ?_ (by assumption) ?_
              · intro w hSw
                obtain ⟨k1, k2, k3, k4, _⟩ := hSw
                obtain ⟨c0, c1, c2, c3, c4⟩ := k1 i hlt
                have d1 := k2.cell hlt
                have d2 := k3.cell hlt
                have y1 : w.cell? ⟨X, 1, none⟩ = some (.slice (some ⟨xf, 0, none⟩) n xcf) := k4.cell (i := 1) (by omega)
                have y2 : w.cell? ⟨X, 2, none⟩ = some (.slice (some ⟨xt, 0, none⟩) n xct) := k4.cell (i := 2) (by omega)
                clear k1 k2 k3 k4
                go_simp
              simp only [Act.put, List.setIfInBounds_toArray, List.set_cons_zero, List.set_cons_succ]
              refine take_do (i := 22) (v := (.int .i64 i)) rfl (by kernel_rfl) (by kernel_rfl) (by kernel_rfl) (fun _ _ _ h => h) (by rfl) ?_ (by assumption) ?_
              · intro w hSw
                clear hSw
                go_simp
              simp only [Act.put, List.setIfInBounds_toArray, List.set_cons_zero, List.set_cons_succ]
              refine take_do (i := 23) (v := (.pointer (some ⟨xt, i, none⟩))) rfl (by kernel_rfl) (by kernel_rfl) (by kernel_rfl) (fun _ _ _ h => h) (by rfl) ?_ (by assumption) ?_
              · intro w hSw
                clear hSw
                go_simp
              simp only [Act.put, List.setIfInBounds_toArray, List.set_cons_zero, List.set_cons_succ]
              refine take_do (i := 24) (v := (.int .i64 (st.tk i))) rfl (by kernel_rfl) (by kernel_rfl) (by kernel_rfl) (fun _ _ _ h => h) (by rfl) ?_ (by assumption) ?_
              · intro w hSw
                obtain ⟨k1, k2, k3, k4, _⟩ := hSw
                obtain ⟨c0, c1, c2, c3, c4⟩ := k1 i hlt
                have d1 := k2.cell hlt
                have d2 := k3.cell hlt
                have y1 : w.cell? ⟨X, 1, none⟩ = some (.slice (some ⟨xf, 0, none⟩) n xcf) := k4.cell (i := 1) (by omega)
                have y2 : w.cell? ⟨X, 2, none⟩ = some (.slice (some ⟨xt, 0, none⟩) n xct) := k4.cell (i := 2) (by omega)
                clear k1 k2 k3 k4
                go_simp
              simp only [Act.put, List.setIfInBounds_toArray, List.set_cons_zero, List.set_cons_succ]
              refine take_do (i := 25) (v := (.bool false)) rfl (by kernel_rfl) (by kernel_rfl) (by kernel_rfl) (fun _ _ _ h => h) (by rfl) ?_ (by assumption) ?_
              · intro w hSw
                clear hSw
                go_simp
              simp only [Act.put, List.setIfInBounds_toArray, List.set_cons_zero, List.set_cons_succ]
              refine take_do (i := 26) (v := (.bool false)) rfl (by kernel_rfl) (by kernel_rfl) (by kernel_rfl) (fun _ _ _ h => h) (by rfl) ?_ (by assumption) ?_
              · intro w hSw
                clear hSw
                go_simp
              simp only [Act.put, List.setIfInBounds_toArray, List.set_cons_zero, List.set_cons_succ]
              refine take_skip (i := 27) rfl (by kernel_rfl) (by kernel_rfl) (by kernel_rfl) (fun _ _ _ h => h) (by rfl) (by assumption) ?_
              simp only [Act.put, List.setIfInBounds_toArray, List.set_cons_zero, List.set_cons_succ]
              refine take_skip (i := 28) rfl (by kernel_rfl) (by kernel_rfl) (by kernel_rfl) (fun _ _ _ h => h) (by rfl) (by assumption) ?_
              simp only [Act.put, List.setIfInBounds_toArray, List.set_cons_zero, List.set_cons_succ]
              refine take_skip (i := 29) rfl (by kernel_rfl) (by kernel_rfl) (by kernel_rfl) (fun _ _ _ h => h) (by rfl) (by assumption) ?_
              simp only [Act.put, List.setIfInBounds_toArray, List.set_cons_zero, List.set_cons_succ]
              refine take_skip (i := 30) rfl (by kernel_rfl) (by kernel_rfl) (by kernel_rfl) (fun _ _ _ h => h) (by rfl) (by assumption) ?_
              simp only [Act.put, List.setIfInBounds_toArray, List.set_cons_zero, List.set_cons_succ]
              refine take_skip (i := 31) rfl (by kernel_rfl) (by kernel_rfl) (by kernel_rfl) (fun _ _ _ h => h) (by rfl) (by assumption) ?_
              simp only [Act.put, List.setIfInBounds_toArray, List.set_cons_zero, List.set_cons_succ]
              refine take_skip (i := 32) rfl (by kernel_rfl) (by kernel_rfl) (by kernel_rfl) (fun _ _ _ h => h) (by rfl) (by assumption) ?_
              simp only [Act.put, List.setIfInBounds_toArray, List.set_cons_zero, List.set_cons_succ]
              refine take_skip (i := 33) rfl (by kernel_rfl) (by kernel_rfl) (by kernel_rfl) (fun _ _ _ h => h) (by rfl) (by assumption) ?_
              simp only [Act.put, List.setIfInBounds_toArray, List.set_cons_zero, List.set_cons_succ]
              refine take_skip (i := 34) rfl (by kernel_rfl) (by kernel_rfl) (by kernel_rfl) (fun _ _ _ h => h) (by rfl) (by assumption) ?_
              simp only [Act.put, List.setIfInBounds_toArray, List.set_cons_zero, List.set_cons_succ]
              refine take_skip (i := 35) rfl (by kernel_rfl) (by kernel_rfl) (by kernel_rfl) (fun _ _ _ h => h) (by rfl) (by assumption) ?_
              simp only [Act.put, List.setIfInBounds_toArray, List.set_cons_zero, List.set_cons_succ]
              refine take_skip (i := 36) rfl (by kernel_rfl) (by kernel_rfl) (by kernel_rfl) (fun _ _ _ h => h) (by rfl) (by assumption) ?_
              simp only [Act.put, List.setIfInBounds_toArray, List.set_cons_zero, List.set_cons_succ]
              refine take_skip (i := 37) rfl (by kernel_rfl) (by kernel_rfl) (by kernel_rfl) (fun _ _ _ h => h) (by rfl) (by assumption) ?_
              simp only [Act.put, List.setIfInBounds_toArray, List.set_cons_zero, List.set_cons_succ]
              refine take_do (i := 38) (v := (.bool false)) rfl (by kernel_rfl) (by kernel_rfl) (by kernel_rfl) (fun _ _ _ h => h) (by rfl) ?_ (by assumption) ?_
              · intro w hSw
                clear hSw
                go_simp
              simp only [Act.put, List.setIfInBounds_toArray, List.set_cons_zero, List.set_cons_succ]
              refine take_do (i := 39) (v := (.bool false)) rfl (by kernel_rfl) (by kernel_rfl) (by kernel_rfl) (fun _ _ _ h => h) (by rfl) ?_ (by assumption) ?_
              · intro w hSw
                clear hSw
                go_simp
              simp only [Act.put, List.setIfInBounds_toArray, List.set_cons_zero, List.set_cons_succ]
              refine take_do (i := 40) (v := (.bool false)) rfl (by kernel_rfl) (by kernel_rfl) (by kernel_rfl) (fun _ _ _ h => h) (by rfl) ?_ (by assumption) ?_
              · intro w hSw
                clear hSw
                go_simp
              simp only [Act.put, List.setIfInBounds_toArray, List.set_cons_zero, List.set_cons_succ]
              refine take_do (i := 41) (v := (.slice a9 NS c9)) rfl (by kernel_rfl) (by kernel_rfl) (by kernel_rfl) (fun _ _ _ h => h) (by rfl) ?_ (by assumption) ?_
              · intro w hSw
                clear hSw
                go_simp
              simp only [Act.put, List.setIfInBounds_toArray, List.set_cons_zero, List.set_cons_succ]
              refine take_do (i := 42) (v := (.int .i64 i)) rfl (by kernel_rfl) (by kernel_rfl) (by kernel_rfl) (fun _ _ _ h => h) (by rfl) ?_ (by assumption) ?_
              · intro w hSw
                clear hSw
                go_simp
              simp only [Act.put, List.setIfInBounds_toArray, List.set_cons_zero, List.set_cons_succ]
              refine take_do (i := 44) (v := (.pointer (some ⟨X, 2, none⟩))) rfl (by kernel_rfl) (by kernel_rfl) (by kernel_rfl) (fun _ _ _ h => h) (by rfl) ?_ (by assumption) ?_
              · intro w hSw
                clear hSw
                go_simp
              simp only [Act.put, List.setIfInBounds_toArray, List.set_cons_zero, List.set_cons_succ]
              refine take_do (i := 45) (v := (.slice (some ⟨xt, 0, none⟩) n xct)) rfl (by kernel_rfl) (by kernel_rfl) (by kernel_rfl) (fun _ _ _ h => h) (by rfl) ?_ (by assumption) ?_
              · intro w hSw
                obtain ⟨k1, k2, k3, k4, _⟩ := hSw
                obtain ⟨c0, c1, c2, c3, c4⟩ := k1 i hlt
                have d1 := k2.cell hlt
                have d2 := k3.cell hlt
                have y1 : w.cell? ⟨X, 1, none⟩ = some (.slice (some ⟨xf, 0, none⟩) n xcf) := k4.cell (i := 1) (by omega)
                have y2 : w.cell? ⟨X, 2, none⟩ = some (.slice (some ⟨xt, 0, none⟩) n xct) := k4.cell (i := 2) (by omega)
                clear k1 k2 k3 k4
                go_simp
              simp only [Act.put, List.setIfInBounds_toArray, List.set_cons_zero, List.set_cons_succ]
              refine take_do (i := 46) (v := (.int .i64 i)) rfl (by kernel_rfl) (by kernel_rfl) (by kernel_rfl) (fun _ _ _ h => h) (by rfl) ?_ (by assumption) ?_
              · intro w hSw
                clear hSw
                go_simp
              simp only [Act.put, List.setIfInBounds_toArray, List.set_cons_zero, List.set_cons_succ]
              refine take_do (i := 47) (v := (.pointer (some ⟨xt, i, none⟩))) rfl (by kernel_rfl) (by kernel_rfl) (by kernel_rfl) (fun _ _ _ h => h) (by rfl) ?_ (by assumption) ?_
              · intro w hSw
                clear hSw
                go_simp
              simp only [Act.put, List.setIfInBounds_toArray, List.set_cons_zero, List.set_cons_succ]
              refine take_do (i := 48) (v := (.int .i64 (st.tk i))) rfl (by kernel_rfl) (by kernel_rfl) (by kernel_rfl) (fun _ _ _ h => h) (by rfl) ?_ (by assumption) ?_
              · intro w hSw
                obtain ⟨k1, k2, k3, k4, _⟩ := hSw
                obtain ⟨c0, c1, c2, c3, c4⟩ := k1 i hlt
                have d1 := k2.cell hlt
                have d2 := k3.cell hlt
                have y1 : w.cell? ⟨X, 1, none⟩ = some (.slice (some ⟨xf, 0, none⟩) n xcf) := k4.cell (i := 1) (by omega)
                have y2 : w.cell? ⟨X, 2, none⟩ = some (.slice (some ⟨xt, 0, none⟩) n xct) := k4.cell (i := 2) (by omega)
                clear k1 k2 k3 k4
                go_simp
              simp only [Act.put, List.setIfInBounds_toArray, List.set_cons_zero, List.set_cons_succ]
              refine take_do (i := 49) (v := (.slice (some ⟨gl, 0, none⟩) n cl)) rfl (by kernel_rfl) (by kernel_rfl) (by kernel_rfl) (fun _ _ _ h => h) (by rfl) ?_ (by assumption) ?_
              · intro w hSw
                clear hSw
                go_simp
              simp only [Act.put, List.setIfInBounds_toArray, List.set_cons_zero, List.set_cons_succ]
              refine take_do (i := 50) (v := (.int .i64 i)) rfl (by kernel_rfl) (by kernel_rfl) (by kernel_rfl) (fun _ _ _ h => h) (by rfl) ?_ (by assumption) ?_
              · intro w hSw
                clear hSw
                go_simp
              simp only [Act.put, List.setIfInBounds_toArray, List.set_cons_zero, List.set_cons_succ]
              refine take_do (i := 51) (v := (.pointer (some ⟨gl, i * 5, none⟩))) rfl (by kernel_rfl) (by kernel_rfl) (by kernel_rfl) (fun _ _ _ h => h) (by rfl) ?_ (by assumption) ?_
              · intro w hSw
                clear hSw
                go_simp
              simp only [Act.put, List.setIfInBounds_toArray, List.set_cons_zero, List.set_cons_succ]
              refine take_do (i := 52) (v := (.pointer (some ⟨gl, i * 5 + 3, none⟩))) rfl (by kernel_rfl) (by kernel_rfl) (by kernel_rfl) (fun _ _ _ h => h) (by rfl) ?_ (by assumption) ?_
              · intro w hSw
                clear hSw
                go_simp
              simp only [Act.put, List.setIfInBounds_toArray, List.set_cons_zero, List.set_cons_succ]
              refine take_do (i := 53) (v := (.int .i64 (rs i).tk)) rfl (by kernel_rfl) (by kernel_rfl) (by kernel_rfl) (fun _ _ _ h => h) (by rfl) ?_ (by assumption) ?_
              · intro w hSw
                obtain ⟨k1, k2, k3, k4, _⟩ := hSw
                obtain ⟨c0, c1, c2, c3, c4⟩ := k1 i hlt
                have d1 := k2.cell hlt
                have d2 := k3.cell hlt
                have y1 : w.cell? ⟨X, 1, none⟩ = some (.slice (some ⟨xf, 0, none⟩) n xcf) := k4.cell (i := 1) (by omega)
                have y2 : w.cell? ⟨X, 2, none⟩ = some (.slice (some ⟨xt, 0, none⟩) n xct) := k4.cell (i := 2) (by omega)
                clear k1 k2 k3 k4
                go_simp
              simp only [Act.put, List.setIfInBounds_toArray, List.set_cons_zero, List.set_cons_succ]
              refine take_do (i := 54) (v := (.bool true)) rfl (by kernel_rfl) (by kernel_rfl) (by kernel_rfl) (fun _ _ _ h => h) (by rfl) ?_ (by assumption) ?_
              · intro w hSw
                clear hSw
                go_simp
              simp only [Act.put, List.setIfInBounds_toArray, List.set_cons_zero, List.set_cons_succ]
              refine take_call (i := 43) rfl (by kernel_rfl) (fun K2 hK => ?_)
              go_simp
              refine (lwHas_any a9 NS c9 FS (i : Int) _ hHeld.2.2.2.2.1 hsl true (by have := HBB.out; simpa using this)).mono ?_
              rintro e w' ⟨rfl, rfl⟩
              go_wp2_with fail
              refine hK.out _ _ hHeld (fun hHeld2 => ?_)
              clear hK hHeld
              have hHeld := hHeld2
              clear hHeld2
              refine take_do (i := 55) (v := (.bool false)) rfl (by kernel_rfl) (by kernel_rfl) (by kernel_rfl) (fun _ _ _ h => h) (by rfl) ?_ (by assumption) ?_
              · intro w hSw
                clear hSw
                go_simp
              simp only [Act.put, List.setIfInBounds_toArray, List.set_cons_zero, List.set_cons_succ]
              refine take_do (i := 56) (v := (.bool false)) rfl (by kernel_rfl) (by kernel_rfl) (by kernel_rfl) (fun _ _ _ h => h) (by rfl) ?_ (by assumption) ?_
              · intro w hSw
                clear hSw
                go_simp
              simp only [Act.put, List.setIfInBounds_toArray, List.set_cons_zero, List.set_cons_succ]
              refine wpAnyH_done (by kernel_rfl) ?_ _
              have S2 := Lib.hid hHeld
              clear hHeld
              go_wp2_with fail
              go_roundw
              case rel => exact ⟨i + 1, by omega, by go_num, S2⟩
              case measure => simp [intOf]; omega
          · obtain rfl : bB = false := by
              cases bB with
              | false => rfl
              | true => exact absurd (HSI.out.1 (HBB.out.1 rfl)) hlss
            by_cases hpos : 0 < st.tk i
            · have g3 : ¬ st.fl i < (rs i).ls := by have := v2 hpos; omega
              go_wp2_with fail
              refine wp_region_held_drew (S := LsS w gl n cl xf xt X 0 NS a9 rs (ro5 (.slice (some ⟨xl, 0, none⟩) n xc) (.slice (some ⟨xf, 0, none⟩) n xcf) (.slice (some ⟨xt, 0, none⟩) n xct) st.sea 0) st.fl st.tk FS) (by kernel_rfl) (hS.out.below (Below.refl _ _).drew) (fun hHeld => ?_)
              clear hS
              refine take_do (i := 0) (v := (.pointer (some ⟨X, 2, none⟩))) rfl (by kernel_rfl) (by kernel_rfl) (by kernel_rfl) (fun _ _ _ h => h) (by rfl) ?_ (by assumption) ?_
              · intro w hSw
                clear hSw
                go_simp
              simp only [Act.put, List.setIfInBounds_toArray, List.set_cons_zero, List.set_cons_succ]
              refine take_do (i := 1) (v := (.slice (some ⟨xt, 0, none⟩) n xct)) rfl (by kernel_rfl) (by kernel_rfl) (by kernel_rfl) (fun _ _ _ h => h) (by rfl) ?_ (by assumption) ?_
              · intro w hSw
                obtain ⟨k1, k2, k3, k4, _⟩ := hSw
                obtain ⟨c0, c1, c2, c3, c4⟩ := k1 i hlt
                have d1 := k2.cell hlt
                have d2 := k3.cell hlt
                have y1 : w.cell? ⟨X, 1, none⟩ = some (.slice (some ⟨xf, 0, none⟩) n xcf) := k4.cell (i := 1) (by omega)
                have y2 : w.cell? ⟨X, 2, none⟩ = some (.slice (some ⟨xt, 0, none⟩) n xct) := k4.cell (i := 2) (by omega)
                clear k1 k2 k3 k4
                go_simp
              simp only [Act.put, List.setIfInBounds_toArray, List.set_cons_zero, List.set_cons_succ]
              refine take_do (i := 2) (v := (.int .i64 i)) rfl (by kernel_rfl) (by kernel_rfl) (by kernel_rfl) (fun _ _ _ h => h) (by rfl) ?_ (by assumption) ?_
              · intro w hSw
                clear hSw
                go_simp
              simp only [Act.put, List.setIfInBounds_toArray, List.set_cons_zero, List.set_cons_succ]
              refine take_do (i := 3) (v := (.pointer (some ⟨xt, i, none⟩))) rfl (by kernel_rfl) (by kernel_rfl) (by kernel_rfl) (fun _ _ _ h => h) (by rfl) ?_ (by assumption) ?_
              · intro w hSw
                clear hSw
                go_simp
              simp only [Act.put, List.setIfInBounds_toArray, List.set_cons_zero, List.set_cons_succ]
              refine take_do (i := 4) (v := (.int .i64 (st.tk i))) rfl (by kernel_rfl) (by kernel_rfl) (by kernel_rfl) (fun _ _ _ h => h) (by rfl) ?_ (by assumption) ?_
              · intro w hSw
                obtain ⟨k1, k2, k3, k4, _⟩ := hSw
                obtain ⟨c0, c1, c2, c3, c4⟩ := k1 i hlt
                have d1 := k2.cell hlt
                have d2 := k3.cell hlt
                have y1 : w.cell? ⟨X, 1, none⟩ = some (.slice (some ⟨xf, 0, none⟩) n xcf) := k4.cell (i := 1) (by omega)
                have y2 : w.cell? ⟨X, 2, none⟩ = some (.slice (some ⟨xt, 0, none⟩) n xct) := k4.cell (i := 2) (by omega)
                clear k1 k2 k3 k4
                go_simp
              simp only [Act.put, List.setIfInBounds_toArray, List.set_cons_zero, List.set_cons_succ]
              refine take_do (i := 5) (v := (.slice (some ⟨gl, 0, none⟩) n cl)) rfl (by kernel_rfl) (by kernel_rfl) (by kernel_rfl) (fun _ _ _ h => h) (by rfl) ?_ (by assumption) ?_
              · intro w hSw
                clear hSw
                go_simp
              simp only [Act.put, List.setIfInBounds_toArray, List.set_cons_zero, List.set_cons_succ]
              refine take_do (i := 6) (v := (.int .i64 i)) rfl (by kernel_rfl) (by kernel_rfl) (by kernel_rfl) (fun _ _ _ h => h) (by rfl) ?_ (by assumption) ?_
              · intro w hSw
                clear hSw
                go_simp
              simp only [Act.put, List.setIfInBounds_toArray, List.set_cons_zero, List.set_cons_succ]
              refine take_do (i := 7) (v := (.pointer (some ⟨gl, i * 5, none⟩))) rfl (by kernel_rfl) (by kernel_rfl) (by kernel_rfl) (fun _ _ _ h => h) (by rfl) ?_ (by assumption) ?_
              · intro w hSw
                clear hSw
                go_simp
              simp only [Act.put, List.setIfInBounds_toArray, List.set_cons_zero, List.set_cons_succ]
              refine take_do (i := 8) (v := (.pointer (some ⟨gl, i * 5 + 3, none⟩))) rfl (by kernel_rfl) (by kernel_rfl) (by kernel_rfl) (fun _ _ _ h => h) (by rfl) ?_ (by assumption) ?_
              · intro w hSw
                clear hSw
                go_simp
              simp only [Act.put, List.setIfInBounds_toArray, List.set_cons_zero, List.set_cons_succ]
              refine take_do (i := 9) (v := (.int .i64 (rs i).tk)) rfl (by kernel_rfl) (by kernel_rfl) (by kernel_rfl) (fun _ _ _ h => h) (by rfl) ?_ (by assumption) ?_
              · intro w hSw
                obtain ⟨k1, k2, k3, k4, _⟩ := hSw
                obtain ⟨c0, c1, c2, c3, c4⟩ := k1 i hlt
                have d1 := k2.cell hlt
                have d2 := k3.cell hlt
                have y1 : w.cell? ⟨X, 1, none⟩ = some (.slice (some ⟨xf, 0, none⟩) n xcf) := k4.cell (i := 1) (by omega)
                have y2 : w.cell? ⟨X, 2, none⟩ = some (.slice (some ⟨xt, 0, none⟩) n xct) := k4.cell (i := 2) (by omega)
                clear k1 k2 k3 k4
                go_simp
              simp only [Act.put, List.setIfInBounds_toArray, List.set_cons_zero, List.set_cons_succ]
              refine take_do (i := 10) (v := (.bool false)) rfl (by kernel_rfl) (by kernel_rfl) (by kernel_rfl) (fun _ _ _ h => h) (by rfl) ?_ (by assumption) ?_
              · intro w hSw
                clear hSw
                go_simp
              simp only [Act.put, List.setIfInBounds_toArray, List.set_cons_zero, List.set_cons_succ]
              refine take_do (i := 11) (v := (.bool false)) rfl (by kernel_rfl) (by kernel_rfl) (by kernel_rfl) (fun _ _ _ h => h) (by rfl) ?_ (by assumption) ?_
              · intro w hSw
                clear hSw
                go_simp
              simp only [Act.put, List.setIfInBounds_toArray, List.set_cons_zero, List.set_cons_succ]
              refine take_do (i := 12) (v := (.pointer (some ⟨X, 2, none⟩))) rfl (by kernel_rfl) (by kernel_rfl) (by kernel_rfl) (fun _ _ _ h => h) (by rfl) ?_ (by assumption) ?_
              · intro w hSw
                clear hSw
                go_simp
              simp only [Act.put, List.setIfInBounds_toArray, List.set_cons_zero, List.set_cons_succ]
              refine take_do (i := 13) (v := (.slice (some ⟨xt, 0, none⟩) n xct)) rfl (by kernel_rfl) (by kernel_rfl) (by kernel_rfl) (fun _ _ _ h => h) (by rfl) ?_ (by assumption) ?_
              · intro w hSw
                obtain ⟨k1, k2, k3, k4, _⟩ := hSw
                obtain ⟨c0, c1, c2, c3, c4⟩ := k1 i hlt
                have d1 := k2.cell hlt
                have d2 := k3.cell hlt
                have y1 : w.cell? ⟨X, 1, none⟩ = some (.slice (some ⟨xf, 0, none⟩) n xcf) := k4.cell (i := 1) (by omega)
                have y2 : w.cell? ⟨X, 2, none⟩ = some (.slice (some ⟨xt, 0, none⟩) n xct) := k4.cell (i := 2) (by omega)
                clear k1 k2 k3 k4
                go_simp
              simp only [Act.put, List.setIfInBounds_toArray, List.set_cons_zero, List.set_cons_succ]
              refine take_do (i := 14) (v := (.int .i64 i)) rfl (by kernel_rfl) (by kernel_rfl) (by kernel_rfl) (fun _ _ _ h => h) (by rfl) ?_ (by assumption) ?_
              · intro w hSw
                clear hSw
                go_simp
              simp only [Act.put, List.setIfInBounds_toArray, List.set_cons_zero, List.set_cons_succ]
              refine take_do (i := 15) (v := (.pointer (some ⟨xt, i, none⟩))) rfl (by kernel_rfl) (by kernel_rfl) (by kernel_rfl) (fun _ _ _ h => h) (by rfl) ?_ (by assumption) ?_
              · intro w hSw
                clear hSw
                go_simp
              simp only [Act.put, List.setIfInBounds_toArray, List.set_cons_zero, List.set_cons_succ]
              refine take_do (i := 16) (v := (.int .i64 (st.tk i))) rfl (by kernel_rfl) (by kernel_rfl) (by kernel_rfl) (fun _ _ _ h => h) (by rfl) ?_ (by assumption) ?_
              · intro w hSw
                obtain ⟨k1, k2, k3, k4, _⟩ := hSw
                obtain ⟨c0, c1, c2, c3, c4⟩ := k1 i hlt
                have d1 := k2.cell hlt
                have d2 := k3.cell hlt
                have y1 : w.cell? ⟨X, 1, none⟩ = some (.slice (some ⟨xf, 0, none⟩) n xcf) := k4.cell (i := 1) (by omega)
                have y2 : w.cell? ⟨X, 2, none⟩ = some (.slice (some ⟨xt, 0, none⟩) n xct) := k4.cell (i := 2) (by omega)
                clear k1 k2 k3 k4
                go_simp
              simp only [Act.put, List.setIfInBounds_toArray, List.set_cons_zero, List.set_cons_succ]
              refine take_do (i := 17) (v := (.bool false)) rfl (by kernel_rfl) (by kernel_rfl) (by kernel_rfl) (fun _ _ _ h => h) (by rfl) ?_ (by assumption) ?_
              · intro w hSw
                clear hSw
                go_simp
              simp only [Act.put, List.setIfInBounds_toArray, List.set_cons_zero, List.set_cons_succ]
              refine take_do (i := 18) (v := (.bool false)) rfl (by kernel_rfl) (by kernel_rfl) (by kernel_rfl) (fun _ _ _ h => h) (by rfl) ?_ (by assumption) ?_
              · intro w hSw
                clear hSw
                go_simp
              simp only [Act.put, List.setIfInBounds_toArray, List.set_cons_zero, List.set_cons_succ]
              refine take_do (i := 19) (v := (.bool false)) rfl (by kernel_rfl) (by kernel_rfl) (by kernel_rfl) (fun _ _ _ h => h) (by rfl) ?_ (by assumption) ?_
              · intro w hSw
                clear hSw
                go_simp
              simp only [Act.put, List.setIfInBounds_toArray, List.set_cons_zero, List.set_cons_succ]
              refine take_do (i := 20) (v := (.pointer (some ⟨X, 2, none⟩))) rfl (by kernel_rfl) (by kernel_rfl) (by kernel_rfl) (fun _ _ _ h => h) (by rfl) ?_ (by assumption) ?_
              · intro w hSw
                clear hSw
                go_simp
              simp only [Act.put, List.setIfInBounds_toArray, List.set_cons_zero, List.set_cons_succ]
              refine take_do (i := 21) (v := (.slice (some ⟨xt, 0, none⟩) n xct)) rfl (by kernel_rfl) (by kernel_rfl) (by kernel_rfl) (fun _ _ _ h => h) (by rfl) ?_ (by assumption) ?_
              · intro w hSw
                obtain ⟨k1, k2, k3, k4, _⟩ := hSw
                obtain ⟨c0, c1, c2, c3, c4⟩ := k1 i hlt
                have d1 := k2.cell hlt
                have d2 := k3.cell hlt
                have y1 : w.cell? ⟨X, 1, none⟩ = some (.slice (some ⟨xf, 0, none⟩) n xcf) := k4.cell (i := 1) (by omega)
                have y2 : w.cell? ⟨X, 2, none⟩ = some (.slice (some ⟨xt, 0, none⟩) n xct) := k4.cell (i := 2) (by omega)
                clear k1 k2 k3 k4
                go_simp
              simp only [Act.put, List.setIfInBounds_toArray, List.set_cons_zero, List.set_cons_succ]
              refine take_do (i := 22) (v := (.int .i64 i)) rfl (by kernel_rfl) (by kernel_rfl) (by kernel_rfl) (fun _ _ _ h => h) (by rfl) ?_ (by assumption) ?_
              · intro w hSw
                clear hSw
                go_simp
              simp only [Act.put, List.setIfInBounds_toArray, List.set_cons_zero, List.set_cons_succ]
              refine take_do (i := 23) (v := (.pointer (some ⟨xt, i, none⟩))) rfl (by kernel_rfl) (by kernel_rfl) (by kernel_rfl) (fun _ _ _ h => h) (by rfl) ?_ (by assumption) ?_
              · intro w hSw
                clear hSw
                go_simp
              simp only [Act.put, List.setIfInBounds_toArray, List.set_cons_zero, List.set_cons_succ]
              refine take_do (i := 24) (v := (.int .i64 (st.tk i))) rfl (by kernel_rfl) (by kernel_rfl) (by kernel_rfl) (fun _ _ _ h => h) (by rfl) ?_ (by assumption) ?_
              · intro w hSw
                obtain ⟨k1, k2, k3, k4, _⟩ := hSw
                obtain ⟨c0, c1, c2, c3, c4⟩ := k1 i hlt
                have d1 := k2.cell hlt
                have d2 := k3.cell hlt
                have y1 : w.cell? ⟨X, 1, none⟩ = some (.slice (some ⟨xf, 0, none⟩) n xcf) := k4.cell (i := 1) (by omega)
                have y2 : w.cell? ⟨X, 2, none⟩ = some (.slice (some ⟨xt, 0, none⟩) n xct) := k4.cell (i := 2) (by omega)
                clear k1 k2 k3 k4
                go_simp
              simp only [Act.put, List.setIfInBounds_toArray, List.set_cons_zero, List.set_cons_succ]
              refine take_do (i := 25) (v := (.bool true)) rfl (by kernel_rfl) (by kernel_rfl) (by kernel_rfl) (fun _ _ _ h => h) (by rfl) ?_ (by assumption) ?_
              · intro w hSw
                clear hSw
                go_simp
              simp only [Act.put, List.setIfInBounds_toArray, List.set_cons_zero, List.set_cons_succ]
              refine take_do (i := 26) (v := (.bool true)) rfl (by kernel_rfl) (by kernel_rfl) (by kernel_rfl) (fun _ _ _ h => h) (by rfl) ?_ (by assumption) ?_
              · intro w hSw
                clear hSw
                go_simp
              simp only [Act.put, List.setIfInBounds_toArray, List.set_cons_zero, List.set_cons_succ]
              refine take_do (i := 27) (v := (.pointer (some ⟨X, 1, none⟩))) rfl (by kernel_rfl) (by kernel_rfl) (by kernel_rfl) (fun _ _ _ h => h) (by rfl) ?_ (by assumption) ?_
              · intro w hSw
                clear hSw
                go_simp
              simp only [Act.put, List.setIfInBounds_toArray, List.set_cons_zero, List.set_cons_succ]
              refine take_do (i := 28) (v := (.slice (some ⟨xf, 0, none⟩) n xcf)) rfl (by kernel_rfl) (by kernel_rfl) (by kernel_rfl) (fun _ _ _ h => h) (by rfl) ?_ (by assumption) ?_
              · intro w hSw
                obtain ⟨k1, k2, k3, k4, _⟩ := hSw
                obtain ⟨c0, c1, c2, c3, c4⟩ := k1 i hlt
                have d1 := k2.cell hlt
                have d2 := k3.cell hlt
                have y1 : w.cell? ⟨X, 1, none⟩ = some (.slice (some ⟨xf, 0, none⟩) n xcf) := k4.cell (i := 1) (by omega)
                have y2 : w.cell? ⟨X, 2, none⟩ = some (.slice (some ⟨xt, 0, none⟩) n xct) := k4.cell (i := 2) (by omega)
                clear k1 k2 k3 k4
                go_simp
              simp only [Act.put, List.setIfInBounds_toArray, List.set_cons_zero, List.set_cons_succ]
              refine take_do (i := 29) (v := (.int .i64 i)) rfl (by kernel_rfl) (by kernel_rfl) (by kernel_rfl) (fun _ _ _ h => h) (by rfl) ?_ (by assumption) ?_
              · intro w hSw
                clear hSw
                go_simp
              simp only [Act.put, List.setIfInBounds_toArray, List.set_cons_zero, List.set_cons_succ]
              refine take_do (i := 30) (v := (.pointer (some ⟨xf, i, none⟩))) rfl (by kernel_rfl) (by kernel_rfl) (by kernel_rfl) (fun _ _ _ h => h) (by rfl) ?_ (by assumption) ?_
              · intro w hSw
                clear hSw
                go_simp
              simp only [Act.put, List.setIfInBounds_toArray, List.set_cons_zero, List.set_cons_succ]
              refine take_do (i := 31) (v := (.int .i64 (st.fl i))) rfl (by kernel_rfl) (by kernel_rfl) (by kernel_rfl) (fun _ _ _ h => h) (by rfl) ?_ (by assumption) ?_
              · intro w hSw
                obtain ⟨k1, k2, k3, k4, _⟩ := hSw
                obtain ⟨c0, c1, c2, c3, c4⟩ := k1 i hlt
                have d1 := k2.cell hlt
                have d2 := k3.cell hlt
                have y1 : w.cell? ⟨X, 1, none⟩ = some (.slice (some ⟨xf, 0, none⟩) n xcf) := k4.cell (i := 1) (by omega)
                have y2 : w.cell? ⟨X, 2, none⟩ = some (.slice (some ⟨xt, 0, none⟩) n xct) := k4.cell (i := 2) (by omega)
                clear k1 k2 k3 k4
                go_simp
              simp only [Act.put, List.setIfInBounds_toArray, List.set_cons_zero, List.set_cons_succ]
              refine take_do (i := 32) (v := (.slice (some ⟨gl, 0, none⟩) n cl)) rfl (by kernel_rfl) (by kernel_rfl) (by kernel_rfl) (fun _ _ _ h => h) (by rfl) ?_ (by assumption) ?_
              · intro w hSw
                clear hSw
                go_simp
              simp only [Act.put, List.setIfInBounds_toArray, List.set_cons_zero, List.set_cons_succ]
              refine take_do (i := 33) (v := (.int .i64 i)) rfl (by kernel_rfl) (by kernel_rfl) (by kernel_rfl) (fun _ _ _ h => h) (by rfl) ?_ (by assumption) ?_
              · intro w hSw
                clear hSw
                go_simp
              simp only [Act.put, List.setIfInBounds_toArray, List.set_cons_zero, List.set_cons_succ]
              refine take_do (i := 34) (v := (.pointer (some ⟨gl, i * 5, none⟩))) rfl (by kernel_rfl) (by kernel_rfl) (by kernel_rfl) (fun _ _ _ h => h) (by rfl) ?_ (by assumption) ?_
              · intro w hSw
                clear hSw
                go_simp
              simp only [Act.put, List.setIfInBounds_toArray, List.set_cons_zero, List.set_cons_succ]
              refine take_do (i := 35) (v := (.pointer (some ⟨gl, i * 5 + 4, none⟩))) rfl (by kernel_rfl) (by kernel_rfl) (by kernel_rfl) (fun _ _ _ h => h) (by rfl) ?_ (by assumption) ?_
              · intro w hSw
                clear hSw
                go_simp
              simp only [Act.put, List.setIfInBounds_toArray, List.set_cons_zero, List.set_cons_succ]
              refine take_do (i := 36) (v := (.int .i64 (rs i).ls)) rfl (by kernel_rfl) (by kernel_rfl) (by kernel_rfl) (fun _ _ _ h => h) (by rfl) ?_ (by assumption) ?_
              · intro w hSw
                obtain ⟨k1, k2, k3, k4, _⟩ := hSw
                obtain ⟨c0, c1, c2, c3, c4⟩ := k1 i hlt
                have d1 := k2.cell hlt
                have d2 := k3.cell hlt
                have y1 : w.cell? ⟨X, 1, none⟩ = some (.slice (some ⟨xf, 0, none⟩) n xcf) := k4.cell (i := 1) (by omega)
                have y2 : w.cell? ⟨X, 2, none⟩ = some (.slice (some ⟨xt, 0, none⟩) n xct) := k4.cell (i := 2) (by omega)
                clear k1 k2 k3 k4
                go_simp
              simp only [Act.put, List.setIfInBounds_toArray, List.set_cons_zero, List.set_cons_succ]
              refine take_do (i := 37) (v := (.bool false)) rfl (by kernel_rfl) (by kernel_rfl) (by kernel_rfl) (fun _ _ _ h => h) (by rfl) ?_ (by assumption) ?_
              · intro w hSw
                clear hSw
                go_simp
              simp only [Act.put, List.setIfInBounds_toArray, List.set_cons_zero, List.set_cons_succ]
              refine take_do (i := 38) (v := (.bool false)) rfl (by kernel_rfl) (by kernel_rfl) (by kernel_rfl) (fun _ _ _ h => h) (by rfl) ?_ (by assumption) ?_
              · intro w hSw
                clear hSw
                go_simp
              simp only [Act.put, List.setIfInBounds_toArray, List.set_cons_zero, List.set_cons_succ]
              refine take_do (i := 39) (v := (.bool false)) rfl (by kernel_rfl) (by kernel_rfl) (by kernel_rfl) (fun _ _ _ h => h) (by rfl) ?_ (by assumption) ?_
              · intro w hSw
                clear hSw
                go_simp
              simp only [Act.put, List.setIfInBounds_toArray, List.set_cons_zero, List.set_cons_succ]
              refine take_do (i := 40) (v := (.bool false)) rfl (by kernel_rfl) (by kernel_rfl) (by kernel_rfl) (fun _ _ _ h => h) (by rfl) ?_ (by assumption) ?_
              · intro w hSw
                clear hSw
                go_simp
              simp only [Act.put, List.setIfInBounds_toArray, List.set_cons_zero, List.set_cons_succ]
              refine take_do (i := 41) (v := (.slice a9 NS c9)) rfl (by kernel_rfl) (by kernel_rfl) (by kernel_rfl) (fun _ _ _ h => h) (by rfl) ?_ (by assumption) ?_
              · intro w hSw
                clear hSw
                go_simp
              simp only [Act.put, List.setIfInBounds_toArray, List.set_cons_zero, List.set_cons_succ]
              refine take_do (i := 42) (v := (.int .i64 i)) rfl (by kernel_rfl) (by kernel_rfl) (by kernel_rfl) (fun _ _ _ h => h) (by rfl) ?_ (by assumption) ?_
              · intro w hSw
                clear hSw
                go_simp
              simp only [Act.put, List.setIfInBounds_toArray, List.set_cons_zero, List.set_cons_succ]
              refine take_do (i := 44) (v := (.pointer (some ⟨X, 2, none⟩))) rfl (by kernel_rfl) (by kernel_rfl) (by kernel_rfl) (fun _ _ _ h => h) (by rfl) ?_ (by assumption) ?_
              · intro w hSw
                clear hSw
                go_simp
              simp only [Act.put, List.setIfInBounds_toArray, List.set_cons_zero, List.set_cons_succ]
              refine take_do (i := 45) (v := (.slice (some ⟨xt, 0, none⟩) n xct)) rfl (by kernel_rfl) (by kernel_rfl) (by kernel_rfl) (fun _ _ _ h => h) (by rfl) ?_ (by assumption) ?_
              · intro w hSw
                obtain ⟨k1, k2, k3, k4, _⟩ := hSw
                obtain ⟨c0, c1, c2, c3, c4⟩ := k1 i hlt
                have d1 := k2.cell hlt
                have d2 := k3.cell hlt
                have y1 : w.cell? ⟨X, 1, none⟩ = some (.slice (some ⟨xf, 0, none⟩) n xcf) := k4.cell (i := 1) (by omega)
                have y2 : w.cell? ⟨X, 2, none⟩ = some (.slice (some ⟨xt, 0, none⟩) n xct) := k4.cell (i := 2) (by omega)
                clear k1 k2 k3 k4
                go_simp
              simp only [Act.put, List.setIfInBounds_toArray, List.set_cons_zero, List.set_cons_succ]
              refine take_do (i := 46) (v := (.int .i64 i)) rfl (by kernel_rfl) (by kernel_rfl) (by kernel_rfl) (fun _ _ _ h => h) (by rfl) ?_ (by assumption) ?_
              · intro w hSw
                clear hSw
                go_simp
              simp only [Act.put, List.setIfInBounds_toArray, List.set_cons_zero, List.set_cons_succ]
              refine take_do (i := 47) (v := (.pointer (some ⟨xt, i, none⟩))) rfl (by kernel_rfl) (by kernel_rfl) (by kernel_rfl) (fun _ _ _ h => h) (by rfl) ?_ (by assumption) ?_
              · intro w hSw
                clear hSw
                go_simp
              simp only [Act.put, List.setIfInBounds_toArray, List.set_cons_zero, List.set_cons_succ]
              refine take_do (i := 48) (v := (.int .i64 (st.tk i))) rfl (by kernel_rfl) (by kernel_rfl) (by kernel_rfl) (fun _ _ _ h => h) (by rfl) ?_ (by assumption) ?_
              · intro w hSw
                obtain ⟨k1, k2, k3, k4, _⟩ := hSw
                obtain ⟨c0, c1, c2, c3, c4⟩ := k1 i hlt
                have d1 := k2.cell hlt
                have d2 := k3.cell hlt
                have y1 : w.cell? ⟨X, 1, none⟩ = some (.slice (some ⟨xf, 0, none⟩) n xcf) := k4.cell (i := 1) (by omega)
                have y2 : w.cell? ⟨X, 2, none⟩ = some (.slice (some ⟨xt, 0, none⟩) n xct) := k4.cell (i := 2) (by omega)
                clear k1 k2 k3 k4
                go_simp
              simp only [Act.put, List.setIfInBounds_toArray, List.set_cons_zero, List.set_cons_succ]
              refine take_do (i := 49) (v := (.slice (some ⟨gl, 0, none⟩) n cl)) rfl (by kernel_rfl) (by kernel_rfl) (by kernel_rfl) (fun _ _ _ h => h) (by rfl) ?_ (by assumption) ?_
              · intro w hSw
                clear hSw
                go_simp
              simp only [Act.put, List.setIfInBounds_toArray, List.set_cons_zero, List.set_cons_succ]
              refine take_do (i := 50) (v := (.int .i64 i)) rfl (by kernel_rfl) (by kernel_rfl) (by kernel_rfl) (fun _ _ _ h => h) (by rfl) ?_ (by assumption) ?_
              · intro w hSw
                clear hSw
                go_simp
              simp only [Act.put, List.setIfInBounds_toArray, List.set_cons_zero, List.set_cons_succ]
              refine take_do (i := 51) (v := (.pointer (some ⟨gl, i * 5, none⟩))) rfl (by kernel_rfl) (by kernel_rfl) (by kernel_rfl) (fun _ _ _ h => h) (by rfl) ?_ (by assumption) ?_
              · intro w hSw
                clear hSw
                go_simp
              simp only [Act.put, List.setIfInBounds_toArray, List.set_cons_zero, List.set_cons_succ]
              refine take_do (i := 52) (v := (.pointer (some ⟨gl, i * 5 + 3, none⟩))) rfl (by kernel_rfl) (by kernel_rfl) (by kernel_rfl) (fun _ _ _ h => h) (by rfl) ?_ (by assumption) ?_
              · intro w hSw
                clear hSw
                go_simp
              simp only [Act.put, List.setIfInBounds_toArray, List.set_cons_zero, List.set_cons_succ]
              refine take_do (i := 53) (v := (.int .i64 (rs i).tk)) rfl (by kernel_rfl) (by kernel_rfl) (by kernel_rfl) (fun _ _ _ h => h) (by rfl) ?_ (by assumption) ?_
              · intro w hSw
                obtain ⟨k1, k2, k3, k4, _⟩ := hSw
                obtain ⟨c0, c1, c2, c3, c4⟩ := k1 i hlt
                have d1 := k2.cell hlt
                have d2 := k3.cell hlt
                have y1 : w.cell? ⟨X, 1, none⟩ = some (.slice (some ⟨xf, 0, none⟩) n xcf) := k4.cell (i := 1) (by omega)
                have y2 : w.cell? ⟨X, 2, none⟩ = some (.slice (some ⟨xt, 0, none⟩) n xct) := k4.cell (i := 2) (by omega)
                clear k1 k2 k3 k4
                go_simp
              simp only [Act.put, List.setIfInBounds_toArray, List.set_cons_zero, List.set_cons_succ]
              refine take_do (i := 54) (v := (.bool false)) rfl (by kernel_rfl) (by kernel_rfl) (by kernel_rfl) (fun _ _ _ h => h) (by rfl) ?_ (by assumption) ?_
              · intro w hSw
                clear hSw
                go_simp
              simp only [Act.put, List.setIfInBounds_toArray, List.set_cons_zero, List.set_cons_succ]
              refine take_call (i := 43) rfl (by kernel_rfl) (fun K2 hK => ?_)
              go_simp
              refine (lwHas_any a9 NS c9 FS (i : Int) _ hHeld.2.2.2.2.1 hsl false (by have := HBB.out; simpa using this)).mono ?_
              rintro e w' ⟨rfl, rfl⟩
              go_wp2_with fail
              refine hK.out _ _ hHeld (fun hHeld2 => ?_)
              clear hK hHeld
              have hHeld := hHeld2
              clear hHeld2
              refine take_do (i := 55) (v := (.bool false)) rfl (by kernel_rfl) (by kernel_rfl) (by kernel_rfl) (fun _ _ _ h => h) (by rfl) ?_ (by assumption) ?_
              · intro w hSw
                clear hSw
                go_simp
              simp only [Act.put, List.setIfInBounds_toArray, List.set_cons_zero, List.set_cons_succ]
              refine take_do (i := 56) (v := (.bool false)) rfl (by kernel_rfl) (by kernel_rfl) (by kernel_rfl) (fun _ _ _ h => h) (by rfl) ?_ (by assumption) ?_
              · intro w hSw
                clear hSw
                go_simp
              simp only [Act.put, List.setIfInBounds_toArray, List.set_cons_zero, List.set_cons_succ]
              refine wpAnyH_done (by kernel_rfl) ?_ _
              have S2 := Lib.hid hHeld
              clear hHeld
              go_wp2_with fail
              go_roundw
              case rel => exact ⟨i + 1, by omega, by go_num, S2⟩
              case measure => simp [intOf]; omega
            · go_wp2_with fail
              refine wp_region_held_drew (S := LsS w gl n cl xf xt X 0 NS a9 rs (ro5 (.slice (some ⟨xl, 0, none⟩) n xc) (.slice (some ⟨xf, 0, none⟩) n xcf) (.slice (some ⟨xt, 0, none⟩) n xct) st.sea 0) st.fl st.tk FS) (by kernel_rfl) (hS.out.below (Below.refl _ _).drew) (fun hHeld => ?_)
              clear hS
              refine take_do (i := 0) (v := (.pointer (some ⟨X, 2, none⟩))) rfl (by kernel_rfl) (by kernel_rfl) (by kernel_rfl) (fun _ _ _ h => h) (by rfl) ?_ (by assumption) ?_
              · intro w hSw
                clear hSw
                go_simp
              simp only [Act.put, List.setIfInBounds_toArray, List.set_cons_zero, List.set_cons_succ]
              refine take_do (i := 1) (v := (.slice (some ⟨xt, 0, none⟩) n xct)) rfl (by kernel_rfl) (by kernel_rfl) (by kernel_rfl) (fun _ _ _ h => h) (by rfl) ?_ (by assumption) ?_
              · intro w hSw
                obtain ⟨k1, k2, k3, k4, _⟩ := hSw
                obtain ⟨c0, c1, c2, c3, c4⟩ := k1 i hlt
                have d1 := k2.cell hlt
                have d2 := k3.cell hlt
                have y1 : w.cell? ⟨X, 1, none⟩ = some (.slice (some ⟨xf, 0, none⟩) n xcf) := k4.cell (i := 1) (by omega)
                have y2 : w.cell? ⟨X, 2, none⟩ = some (.slice (some ⟨xt, 0, none⟩) n xct) := k4.cell (i := 2) (by omega)
                clear k1 k2 k3 k4
                go_simp
              simp only [Act.put, List.setIfInBounds_toArray, List.set_cons_zero, List.set_cons_succ]
              refine take_do (i := 2) (v := (.int .i64 i)) rfl (by kernel_rfl) (by kernel_rfl) (by kernel_rfl) (fun _ _ _ h => h) (by rfl) ?_ (by assumption) ?_
              · intro w hSw
                clear hSw
                go_simp
              simp only [Act.put, List.setIfInBounds_toArray, List.set_cons_zero, List.set_cons_succ]
              refine take_do (i := 3) (v := (.pointer (some ⟨xt, i, none⟩))) rfl (by kernel_rfl) (by kernel_rfl) (by kernel_rfl) (fun _ _ _ h => h) (by rfl) ?_ (by assumption) ?_
              · intro w hSw
                clear hSw
                go_simp
              simp only [Act.put, List.setIfInBounds_toArray, List.set_cons_zero, List.set_cons_succ]
              refine take_do (i := 4) (v := (.int .i64 (st.tk i))) rfl (by kernel_rfl) (by kernel_rfl) (by kernel_rfl) (fun _ _ _ h => h) (by rfl) ?_ (by assumption) ?_
              · intro w hSw
                obtain ⟨k1, k2, k3, k4, _⟩ := hSw
                obtain ⟨c0, c1, c2, c3, c4⟩ := k1 i hlt
                have d1 := k2.cell hlt
                have d2 := k3.cell hlt
                have y1 : w.cell? ⟨X, 1, none⟩ = some (.slice (some ⟨xf, 0, none⟩) n xcf) := k4.cell (i := 1) (by omega)
                have y2 : w.cell? ⟨X, 2, none⟩ = some (.slice (some ⟨xt, 0, none⟩) n xct) := k4.cell (i := 2) (by omega)
                clear k1 k2 k3 k4
                go_simp
              simp only [Act.put, List.setIfInBounds_toArray, List.set_cons_zero, List.set_cons_succ]
              refine take_do (i := 5) (v := (.slice (some ⟨gl, 0, none⟩) n cl)) rfl (by kernel_rfl) (by kernel_rfl) (by kernel_rfl) (fun _ _ _ h => h) (by rfl) ?_ (by assumption) ?_
              · intro w hSw
                clear hSw
                go_simp
              simp only [Act.put, List.setIfInBounds_toArray, List.set_cons_zero, List.set_cons_succ]
              refine take_do (i := 6) (v := (.int .i64 i)) rfl (by kernel_rfl) (by kernel_rfl) (by kernel_rfl) (fun _ _ _ h => h) (by rfl) ?_ (by assumption) ?_
              · intro w hSw
                clear hSw
                go_simp
              simp only [Act.put, List.setIfInBounds_toArray, List.set_cons_zero, List.set_cons_succ]
              refine take_do (i := 7) (v := (.pointer (some ⟨gl, i * 5, none⟩))) rfl (by kernel_rfl) (by kernel_rfl) (by kernel_rfl) (fun _ _ _ h => h) (by rfl) ?_ (by assumption) ?_
              · intro w hSw
                clear hSw
                go_simp
              simp only [Act.put, List.setIfInBounds_toArray, List.set_cons_zero, List.set_cons_succ]
              refine take_do (i := 8) (v := (.pointer (some ⟨gl, i * 5 + 3, none⟩))) rfl (by kernel_rfl) (by kernel_rfl) (by kernel_rfl) (fun _ _ _ h => h) (by rfl) ?_ (by assumption) ?_
              · intro w hSw
                clear hSw
                go_simp
              simp only [Act.put, List.setIfInBounds_toArray, List.set_cons_zero, List.set_cons_succ]
              refine take_do (i := 9) (v := (.int .i64 (rs i).tk)) rfl (by kernel_rfl) (by kernel_rfl) (by kernel_rfl) (fun _ _ _ h => h) (by rfl) ?_ (by assumption) ?_
              · intro w hSw
                obtain ⟨k1, k2, k3, k4, _⟩ := hSw
                obtain ⟨c0, c1, c2, c3, c4⟩ := k1 i hlt
                have d1 := k2.cell hlt
                have d2 := k3.cell hlt
                have y1 : w.cell? ⟨X, 1, none⟩ = some (.slice (some ⟨xf, 0, none⟩) n xcf) := k4.cell (i := 1) (by omega)
                have y2 : w.cell? ⟨X, 2, none⟩ = some (.slice (some ⟨xt, 0, none⟩) n xct) := k4.cell (i := 2) (by omega)
                clear k1 k2 k3 k4
                go_simp
              simp only [Act.put, List.setIfInBounds_toArray, List.set_cons_zero, List.set_cons_succ]
              refine take_do (i := 10) (v := (.bool false)) rfl (by kernel_rfl) (by kernel_rfl) (by kernel_rfl) (fun _ _ _ h => h) (by rfl) ?_ (by assumption) ?_
              · intro w hSw
                clear hSw
                go_simp
              simp only [Act.put, List.setIfInBounds_toArray, List.set_cons_zero, List.set_cons_succ]
              refine take_do (i := 11) (v := (.bool false)) rfl (by kernel_rfl) (by kernel_rfl) (by kernel_rfl) (fun _ _ _ h => h) (by rfl) ?_ (by assumption) ?_
              · intro w hSw
                clear hSw
                go_simp
              simp only [Act.put, List.setIfInBounds_toArray, List.set_cons_zero, List.set_cons_succ]
              refine take_do (i := 12) (v := (.pointer (some ⟨X, 2, none⟩))) rfl (by kernel_rfl) (by kernel_rfl) (by kernel_rfl) (fun _ _ _ h => h) (by rfl) ?_ (by assumption) ?_
              · intro w hSw
                clear hSw
                go_simp
              simp only [Act.put, List.setIfInBounds_toArray, List.set_cons_zero, List.set_cons_succ]
              refine take_do (i := 13) (v := (.slice (some ⟨xt, 0, none⟩) n xct)) rfl (by kernel_rfl) (by kernel_rfl) (by kernel_rfl) (fun _ _ _ h => h) (by rfl) ?_ (by assumption) ?_
              · intro w hSw
                obtain ⟨k1, k2, k3, k4, _⟩ := hSw
                obtain ⟨c0, c1, c2, c3, c4⟩ := k1 i hlt
                have d1 := k2.cell hlt
                have d2 := k3.cell hlt
                have y1 : w.cell? ⟨X, 1, none⟩ = some (.slice (some ⟨xf, 0, none⟩) n xcf) := k4.cell (i := 1) (by omega)
                have y2 : w.cell? ⟨X, 2, none⟩ = some (.slice (some ⟨xt, 0, none⟩) n xct) := k4.cell (i := 2) (by omega)
                clear k1 k2 k3 k4
                go_simp
              simp only [Act.put, List.setIfInBounds_toArray, List.set_cons_zero, List.set_cons_succ]
              refine take_do (i := 14) (v := (.int .i64 i)) rfl (by kernel_rfl) (by kernel_rfl) (by kernel_rfl) (fun _ _ _ h => h) (by rfl) ?_ (by assumption) ?_
              · intro w hSw
                clear hSw
                go_simp
              simp only [Act.put, List.setIfInBounds_toArray, List.set_cons_zero, List.set_cons_succ]
              refine take_do (i := 15) (v := (.pointer (some ⟨xt, i, none⟩))) rfl (by kernel_rfl) (by kernel_rfl) (by kernel_rfl) (fun _ _ _ h => h) (by rfl) ?_ (by assumption) ?_
              · intro w hSw
                clear hSw
                go_simp
              simp only [Act.put, List.setIfInBounds_toArray, List.set_cons_zero, List.set_cons_succ]
              refine take_do (i := 16) (v := (.int .i64 (st.tk i))) rfl (by kernel_rfl) (by kernel_rfl) (by kernel_rfl) (fun _ _ _ h => h) (by rfl) ?_ (by assumption) ?_
              · intro w hSw
                obtain ⟨k1, k2, k3, k4, _⟩ := hSw
                obtain ⟨c0, c1, c2, c3, c4⟩ := k1 i hlt
                have d1 := k2.cell hlt
                have d2 := k3.cell hlt
                have y1 : w.cell? ⟨X, 1, none⟩ = some (.slice (some ⟨xf, 0, none⟩) n xcf) := k4.cell (i := 1) (by omega)
                have y2 : w.cell? ⟨X, 2, none⟩ = some (.slice (some ⟨xt, 0, none⟩) n xct) := k4.cell (i := 2) (by omega)
                clear k1 k2 k3 k4
                go_simp
              simp only [Act.put, List.setIfInBounds_toArray, List.set_cons_zero, List.set_cons_succ]
              refine take_do (i := 17) (v := (.bool false)) rfl (by kernel_rfl) (by kernel_rfl) (by kernel_rfl) (fun _ _ _ h => h) (by rfl) ?_ (by assumption) ?_
              · intro w hSw
                clear hSw
                go_simp
              simp only [Act.put, List.setIfInBounds_toArray, List.set_cons_zero, List.set_cons_succ]
              refine take_do (i := 18) (v := (.bool false)) rfl (by kernel_rfl) (by kernel_rfl) (by kernel_rfl) (fun _ _ _ h => h) (by rfl) ?_ (by assumption) ?_
              · intro w hSw
                clear hSw
                go_simp
              simp only [Act.put, List.setIfInBounds_toArray, List.set_cons_zero, List.set_cons_succ]
              refine take_do (i := 19) (v := (.bool false)) rfl (by kernel_rfl) (by kernel_rfl) (by kernel_rfl) (fun _ _ _ h => h) (by rfl) ?_ (by assumption) ?_
              · intro w hSw
                clear hSw
                go_simp
              simp only [Act.put, List.setIfInBounds_toArray, List.set_cons_zero, List.set_cons_succ]
              refine take_do (i := 20) (v := (.pointer (some ⟨X, 2, none⟩))) rfl (by kernel_rfl) (by kernel_rfl) (by kernel_rfl) (fun _ _ _ h => h) (by rfl) ?_ (by assumption) ?_
              · intro w hSw
                clear hSw
                go_simp
              simp only [Act.put, List.setIfInBounds_toArray, List.set_cons_zero, List.set_cons_succ]
              refine take_do (i := 21) (v := (.slice (some ⟨xt, 0, none⟩) n xct)) rfl (by kernel_rfl) (by kernel_rfl) (by kernel_rfl) (fun _ _ _ h => h) (by rfl) ?_ (by assumption) ?_
              · intro w hSw
                obtain ⟨k1, k2, k3, k4, _⟩ := hSw
                obtain ⟨c0, c1, c2, c3, c4⟩ := k1 i hlt
                have d1 := k2.cell hlt
                have d2 := k3.cell hlt
                have y1 : w.cell? ⟨X, 1, none⟩ = some (.slice (some ⟨xf, 0, none⟩) n xcf) := k4.cell (i := 1) (by omega)
                have y2 : w.cell? ⟨X, 2, none⟩ = some (.slice (some ⟨xt, 0, none⟩) n xct) := k4.cell (i := 2) (by omega)
                clear k1 k2 k3 k4
                go_simp
              simp only [Act.put, List.setIfInBounds_toArray, List.set_cons_zero, List.set_cons_succ]
              refine take_do (i := 22) (v := (.int .i64 i)) rfl (by kernel_rfl) (by kernel_rfl) (by kernel_rfl) (fun _ _ _ h => h) (by rfl) ?_ (by assumption) ?_
              · intro w hSw
                clear hSw
                go_simp
              simp only [Act.put, List.setIfInBounds_toArray, List.set_cons_zero, List.set_cons_succ]
              refine take_do (i := 23) (v := (.pointer (some ⟨xt, i, none⟩))) rfl (by kernel_rfl) (by kernel_rfl) (by kernel_rfl) (fun _ _ _ h => h) (by rfl) ?_ (by assumption) ?_
              · intro w hSw
                clear hSw
                go_simp
              simp only [Act.put, List.setIfInBounds_toArray, List.set_cons_zero, List.set_cons_succ]
              refine take_do (i := 24) (v := (.int .i64 (st.tk i))) rfl (by kernel_rfl) (by kernel_rfl) (by kernel_rfl) (fun _ _ _ h => h) (by rfl) ?_ (by assumption) ?_
              · intro w hSw
                obtain ⟨k1, k2, k3, k4, _⟩ := hSw
                obtain ⟨c0, c1, c2, c3, c4⟩ := k1 i hlt
                have d1 := k2.cell hlt
                have d2 := k3.cell hlt
                have y1 : w.cell? ⟨X, 1, none⟩ = some (.slice (some ⟨xf, 0, none⟩) n xcf) := k4.cell (i := 1) (by omega)
                have y2 : w.cell? ⟨X, 2, none⟩ = some (.slice (some ⟨xt, 0, none⟩) n xct) := k4.cell (i := 2) (by omega)
                clear k1 k2 k3 k4
                go_simp
              simp only [Act.put, List.setIfInBounds_toArray, List.set_cons_zero, List.set_cons_succ]
              refine take_do (i := 25) (v := (.bool false)) rfl (by kernel_rfl) (by kernel_rfl) (by kernel_rfl) (fun _ _ _ h => h) (by rfl) ?_ (by assumption) ?_
              · intro w hSw
                clear hSw
                go_simp
              simp only [Act.put, List.setIfInBounds_toArray, List.set_cons_zero, List.set_cons_succ]
              refine take_do (i := 26) (v := (.bool false)) rfl (by kernel_rfl) (by kernel_rfl) (by kernel_rfl) (fun _ _ _ h => h) (by rfl) ?_ (by assumption) ?_
              · intro w hSw
                clear hSw
                go_simp
              simp only [Act.put, List.setIfInBounds_toArray, List.set_cons_zero, List.set_cons_succ]
              refine take_skip (i := 27) rfl (by kernel_rfl) (by kernel_rfl) (by kernel_rfl) (fun _ _ _ h => h) (by rfl) (by assumption) ?_
              simp only [Act.put, List.setIfInBounds_toArray, List.set_cons_zero, List.set_cons_succ]
              refine take_skip (i := 28) rfl (by kernel_rfl) (by kernel_rfl) (by kernel_rfl) (fun _ _ _ h => h) (by rfl) (by assumption) ?_
              simp only [Act.put, List.setIfInBounds_toArray, List.set_cons_zero, List.set_cons_succ]
              refine take_skip (i := 29) rfl (by kernel_rfl) (by kernel_rfl) (by kernel_rfl) (fun _ _ _ h => h) (by rfl) (by assumption) ?_
              simp only [Act.put, List.setIfInBounds_toArray, List.set_cons_zero, List.set_cons_succ]
              refine take_skip (i := 30) rfl (by kernel_rfl) (by kernel_rfl) (by kernel_rfl) (fun _ _ _ h => h) (by rfl) (by assumption) ?_
              simp only [Act.put, List.setIfInBounds_toArray, List.set_cons_zero, List.set_cons_succ]
              refine take_skip (i := 31) rfl (by kernel_rfl) (by kernel_rfl) (by kernel_rfl) (fun _ _ _ h => h) (by rfl) (by assumption) ?_
              simp only [Act.put, List.setIfInBounds_toArray, List.set_cons_zero, List.set_cons_succ]
              refine take_skip (i := 32) rfl (by kernel_rfl) (by kernel_rfl) (by kernel_rfl) (fun _ _ _ h => h) (by rfl) (by assumption) ?_
              simp only [Act.put, List.setIfInBounds_toArray, List.set_cons_zero, List.set_cons_succ]
              refine take_skip (i := 33) rfl (by kernel_rfl) (by kernel_rfl) (by kernel_rfl) (fun _ _ _ h => h) (by rfl) (by assumption) ?_
              simp only [Act.put, List.setIfInBounds_toArray, List.set_cons_zero, List.set_cons_succ]
              refine take_skip (i := 34) rfl (by kernel_rfl) (by kernel_rfl) (by kernel_rfl) (fun _ _ _ h => h) (by rfl) (by assumption) ?_
              simp only [Act.put, List.setIfInBounds_toArray, List.set_cons_zero, List.set_cons_succ]
              refine take_skip (i := 35) rfl (by kernel_rfl) (by kernel_rfl) (by kernel_rfl) (fun _ _ _ h => h) (by rfl) (by assumption) ?_
              simp only [Act.put, List.setIfInBounds_toArray, List.set_cons_zero, List.set_cons_succ]
              refine take_skip (i := 36) rfl (by kernel_rfl) (by kernel_rfl) (by kernel_rfl) (fun _ _ _ h => h) (by rfl) (by assumption) ?_
              simp only [Act.put, List.setIfInBounds_toArray, List.set_cons_zero, List.set_cons_succ]
              refine take_skip (i := 37) rfl (by kernel_rfl) (by kernel_rfl) (by kernel_rfl) (fun _ _ _ h => h) (by rfl) (by assumption) ?_
              simp only [Act.put, List.setIfInBounds_toArray, List.set_cons_zero, List.set_cons_succ]
              refine take_do (i := 38) (v := (.bool false)) rfl (by kernel_rfl) (by kernel_rfl) (by kernel_rfl) (fun _ _ _ h => h) (by rfl) ?_ (by assumption) ?_
              · intro w hSw
                clear hSw
                go_simp
              simp only [Act.put, List.setIfInBounds_toArray, List.set_cons_zero, List.set_cons_succ]
              refine take_do (i := 39) (v := (.bool false)) rfl (by kernel_rfl) (by kernel_rfl) (by kernel_rfl) (fun _ _ _ h => h) (by rfl) ?_ (by assumption) ?_
              · intro w hSw
                clear hSw
                go_simp
              simp only [Act.put, List.setIfInBounds_toArray, List.set_cons_zero, List.set_cons_succ]
              refine take_do (i := 40) (v := (.bool false)) rfl (by kernel_rfl) (by kernel_rfl) (by kernel_rfl) (fun _ _ _ h => h) (by rfl) ?_ (by assumption) ?_
              · intro w hSw
                clear hSw
                go_simp
              simp only [Act.put, List.setIfInBounds_toArray, List.set_cons_zero, List.set_cons_succ]
              refine take_do (i := 41) (v := (.slice a9 NS c9)) rfl (by kernel_rfl) (by kernel_rfl) (by kernel_rfl) (fun _ _ _ h => h) (by rfl) ?_ (by assumption) ?_
              · intro w hSw
                clear hSw
                go_simp
              simp only [Act.put, List.setIfInBounds_toArray, List.set_cons_zero, List.set_cons_succ]
              refine take_do (i := 42) (v := (.int .i64 i)) rfl (by kernel_rfl) (by kernel_rfl) (by kernel_rfl) (fun _ _ _ h => h) (by rfl) ?_ (by assumption) ?_
              · intro w hSw
                clear hSw
                go_simp
              simp only [Act.put, List.setIfInBounds_toArray, List.set_cons_zero, List.set_cons_succ]
              refine take_do (i := 44) (v := (.pointer (some ⟨X, 2, none⟩))) rfl (by kernel_rfl) (by kernel_rfl) (by kernel_rfl) (fun _ _ _ h => h) (by rfl) ?_ (by assumption) ?_
              · intro w hSw
                clear hSw
                go_simp
              simp only [Act.put, List.setIfInBounds_toArray, List.set_cons_zero, List.set_cons_succ]
              refine take_do (i := 45) (v := (.slice (some ⟨xt, 0, none⟩) n xct)) rfl (by kernel_rfl) (by kernel_rfl) (by kernel_rfl) (fun _ _ _ h => h) (by rfl) ?_ (by assumption) ?_
              · intro w hSw
                obtain ⟨k1, k2, k3, k4, _⟩ := hSw
                obtain ⟨c0, c1, c2, c3, c4⟩ := k1 i hlt
                have d1 := k2.cell hlt
                have d2 := k3.cell hlt
                have y1 : w.cell? ⟨X, 1, none⟩ = some (.slice (some ⟨xf, 0, none⟩) n xcf) := k4.cell (i := 1) (by omega)
                have y2 : w.cell? ⟨X, 2, none⟩ = some (.slice (some ⟨xt, 0, none⟩) n xct) := k4.cell (i := 2) (by omega)
                clear k1 k2 k3 k4
                go_simp
              simp only [Act.put, List.setIfInBounds_toArray, List.set_cons_zero, List.set_cons_succ]
              refine take_do (i := 46) (v := (.int .i64 i)) rfl (by kernel_rfl) (by kernel_rfl) (by kernel_rfl) (fun _ _ _ h => h) (by rfl) ?_ (by assumption) ?_
              · intro w hSw
                clear hSw
                go_simp
              simp only [Act.put, List.setIfInBounds_toArray, List.set_cons_zero, List.set_cons_succ]
              refine take_do (i := 47) (v := (.pointer (some ⟨xt, i, none⟩))) rfl (by kernel_rfl) (by kernel_rfl) (by kernel_rfl) (fun _ _ _ h => h) (by rfl) ?_ (by assumption) ?_
              · intro w hSw
                clear hSw
                go_simp
              simp only [Act.put, List.setIfInBounds_toArray, List.set_cons_zero, List.set_cons_succ]
              refine take_do (i := 48) (v := (.int .i64 (st.tk i))) rfl (by kernel_rfl) (by kernel_rfl) (by kernel_rfl) (fun _ _ _ h => h) (by rfl) ?_ (by assumption) ?_
              · intro w hSw
                obtain ⟨k1, k2, k3, k4, _⟩ := hSw
                obtain ⟨c0, c1, c2, c3, c4⟩ := k1 i hlt
                have d1 := k2.cell hlt
                have d2 := k3.cell hlt
                have y1 : w.cell? ⟨X, 1, none⟩ = some (.slice (some ⟨xf, 0, none⟩) n xcf) := k4.cell (i := 1) (by omega)
                have y2 : w.cell? ⟨X, 2, none⟩ = some (.slice (some ⟨xt, 0, none⟩) n xct) := k4.cell (i := 2) (by omega)
                clear k1 k2 k3 k4
                go_simp
              simp only [Act.put, List.setIfInBounds_toArray, List.set_cons_zero, List.set_cons_succ]
              refine take_do (i := 49) (v := (.slice (some ⟨gl, 0, none⟩) n cl)) rfl (by kernel_rfl) (by kernel_rfl) (by kernel_rfl) (fun _ _ _ h => h) (by rfl) ?_ (by assumption) ?_
              · intro w hSw
                clear hSw
                go_simp
              simp only [Act.put, List.setIfInBounds_toArray, List.set_cons_zero, List.set_cons_succ]
              refine take_do (i := 50) (v := (.int .i64 i)) rfl (by kernel_rfl) (by kernel_rfl) (by kernel_rfl) (fun _ _ _ h => h) (by rfl) ?_ (by assumption) ?_
              · intro w hSw
                clear hSw
                go_simp
              simp only [Act.put, List.setIfInBounds_toArray, List.set_cons_zero, List.set_cons_succ]
              refine take_do (i := 51) (v := (.pointer (some ⟨gl, i * 5, none⟩))) rfl (by kernel_rfl) (by kernel_rfl) (by kernel_rfl) (fun _ _ _ h => h) (by rfl) ?_ (by assumption) ?_
              · intro w hSw
                clear hSw
                go_simp
              simp only [Act.put, List.setIfInBounds_toArray, List.set_cons_zero, List.set_cons_succ]
              refine take_do (i := 52) (v := (.pointer (some ⟨gl, i * 5 + 3, none⟩))) rfl (by kernel_rfl) (by kernel_rfl) (by kernel_rfl) (fun _ _ _ h => h) (by rfl) ?_ (by assumption) ?_
              · intro w hSw
                clear hSw
                go_simp
              simp only [Act.put, List.setIfInBounds_toArray, List.set_cons_zero, List.set_cons_succ]
              refine take_do (i := 53) (v := (.int .i64 (rs i).tk)) rfl (by kernel_rfl) (by kernel_rfl) (by kernel_rfl) (fun _ _ _ h => h) (by rfl) ?_ (by assumption) ?_
              · intro w hSw
                obtain ⟨k1, k2, k3, k4, _⟩ := hSw
                obtain ⟨c0, c1, c2, c3, c4⟩ := k1 i hlt
                have d1 := k2.cell hlt
                have d2 := k3.cell hlt
                have y1 : w.cell? ⟨X, 1, none⟩ = some (.slice (some ⟨xf, 0, none⟩) n xcf) := k4.cell (i := 1) (by omega)
                have y2 : w.cell? ⟨X, 2, none⟩ = some (.slice (some ⟨xt, 0, none⟩) n xct) := k4.cell (i := 2) (by omega)
                clear k1 k2 k3 k4
                go_simp
              simp only [Act.put, List.setIfInBounds_toArray, List.set_cons_zero, List.set_cons_succ]
              refine take_do (i := 54) (v := (.bool false)) rfl (by kernel_rfl) (by kernel_rfl) (by kernel_rfl) (fun _ _ _ h => h) (by rfl) ?_ (by assumption) ?_
              · intro w hSw
                clear hSw
                go_simp
              simp only [Act.put, List.setIfInBounds_toArray, List.set_cons_zero, List.set_cons_succ]
              refine take_call (i := 43) rfl (by kernel_rfl) (fun K2 hK => ?_)
              go_simp
              refine (lwHas_any a9 NS c9 FS (i : Int) _ hHeld.2.2.2.2.1 hsl false (by have := HBB.out; simpa using this)).mono ?_
              rintro e w' ⟨rfl, rfl⟩
              go_wp2_with fail
              refine hK.out _ _ hHeld (fun hHeld2 => ?_)
              clear hK hHeld
              have hHeld := hHeld2
              clear hHeld2
              refine take_do (i := 55) (v := (.bool false)) rfl (by kernel_rfl) (by kernel_rfl) (by kernel_rfl) (fun _ _ _ h => h) (by rfl) ?_ (by assumption) ?_
              · intro w hSw
                clear hSw
                go_simp
              simp only [Act.put, List.setIfInBounds_toArray, List.set_cons_zero, List.set_cons_succ]
              refine take_do (i := 56) (v := (.bool false)) rfl (by kernel_rfl) (by kernel_rfl) (by kernel_rfl) (fun _ _ _ h => h) (by rfl) ?_ (by assumption) ?_
              · intro w hSw
                clear hSw
                go_simp
              simp only [Act.put, List.setIfInBounds_toArray, List.set_cons_zero, List.set_cons_succ]
              refine wpAnyH_done (by kernel_rfl) ?_ _
              have S2 := Lib.hid hHeld
              clear hHeld
              go_wp2_with fail
              go_roundw
              case rel => exact ⟨i + 1, by omega, by go_num, S2⟩
              case measure => simp [intOf]; omega
        · obtain rfl : i = n := by omega
          go_wp2_with fail
          go_ret
          exact ⟨rfl, hS.out.2.2.2.2.2.1⟩
theorem least_all (w : World) (a : Option Addr) (len cap : Nat) (h : Bytes a len w) (_hm : len ≤ 9223372036854775807) (hg : Et w) :
    Calls Tryd.prog 5 #[.slice a len cap] w fun e w' => e = .returned (.bool true) ∧ Below w.heap.size w w' := by
  by_cases hl : len ≤ 1048576
  · exact least_law a len cap w h hl hg
  · have hz : (1048576 : Int) < (len : Int) := by omega
    go_enter Tryd.func5, Tryd.ntmps5
    go_wp2_with fail
    go_ret
    exact ⟨rfl, Below.refl _ _⟩
end Go.Proofs.YtdpghhmcibiplaaDoor
