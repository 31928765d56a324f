/-
  The words of a block's line: the program's.
-/
import Derived.Test.YtiaeobocenanlaaDoorPgTi
namespace Go.Proofs.YtiaeobocenanlaaDoor
open Go.RowKit Go.Deep

theorem Pg.fp0_012 (k : Int) : Pg.fp0 k = 0 ∨ Pg.fp0 k = 1 ∨ Pg.fp0 k = 2 := by
  unfold Pg.fp0
  by_cases h : k = 2 ∨ k = 3 ∨ k = 4 ∨ k = 6 ∨ k = 7
  · rw [if_pos h]; simp
  · rw [if_neg h]
    by_cases h5 : k = 5
    · rw [if_pos h5]; simp
    · rw [if_neg h5]; simp
theorem Pg.fp1_013 (k : Int) : Pg.fp1 k = 0 ∨ Pg.fp1 k = 1 ∨ Pg.fp1 k = 3 := by
  unfold Pg.fp1
  by_cases h : k = 2 ∨ k = 3 ∨ k = 6
  · rw [if_pos h]; simp
  · rw [if_neg h]
    by_cases h5 : k = 7
    · rw [if_pos h5]; simp
    · rw [if_neg h5]; simp
/-- The words so far. -/
def Pg.wdK (p : Pg.Prog) (x : Pg.Bk) (j : Nat) : List ByteArray := if j = 0 then [Pg.fw x.kind, x.name] else if j = 1 then [Pg.fw x.kind, x.name] ++ Pg.wa p x else Pg.wds p x
theorem Pg.wdK_len (p : Pg.Prog) (x : Pg.Bk) (j : Nat) : 2 ≤ (Pg.wdK p x j).length ∧ (Pg.wdK p x j).length ≤ 4 := by
  have h1 : (Pg.wa p x).length ≤ 1 := by unfold Pg.wa; split <;> simp
  have h2 : (Pg.wb p x).length ≤ 1 := by
    unfold Pg.wb
    split
    · simp
    · split <;> simp
  unfold Pg.wdK Pg.wds
  split
  · simp
  · split
    · simp; omega
    · simp; omega
/-- What stands while the words are gathered. -/
structure WoS (p : Pg.Prog) (la : Option Addr) (lk : Nat) (fa : Option Addr) (fk : Nat) (wa : Option Addr) (wk : Nat) (x : Pg.Bk) (fb : Nat) (ws : List ByteArray) (v : Value) (w W : World) : Prop where
  box : W.rowIs w.heap.size 32 3 (rowN (pgL p la lk fa fk wa wk))
  row : W.rowIs fb 69 3 (rowN [.string (Pg.fw x.kind), .int .i64 (Pg.fp0 x.kind), .int .i64 (Pg.fp1 x.kind)])
  own : StO w.heap.size v ws W
  old : Below w.heap.size w W
theorem WoS.below {p : Pg.Prog} {la : Option Addr} {lk : Nat} {fa : Option Addr} {fk : Nat} {wa : Option Addr} {wk : Nat} {x : Pg.Bk} {fb : Nat} {ws : List ByteArray} {v : Value} {w W W' : World} (h : WoS p la lk fa fk wa wk x fb ws v w W) (hb : Below W.heap.size W W') : WoS p la lk fa fk wa wk x fb ws v w W' := ⟨nrow_below h.box hb, nrow_below h.row hb, h.own.below hb, h.old.trans (hb.mono h.old.size)⟩
theorem WoS.grown {p : Pg.Prog} {la : Option Addr} {lk : Nat} {fa : Option Addr} {fk : Nat} {wa : Option Addr} {wk : Nat} {x : Pg.Bk} {fb : Nat} {ws : List ByteArray} {s : ByteArray} {v v' : Value} {w W W' : World} (h : WoS p la lk fa fk wa wk x fb ws v w W) (hown : W'.ownsRow w.heap.size 9 1 v' (ws.length + 1) (ws.map Value.string ++ [.string s])) (hg : W.grownBy W' v.ownBlock) : WoS p la lk fa fk wa wk x fb (ws ++ [s]) v' w W' :=
  ⟨h.box.of_block (hg.block _ h.box.lt (h.own.ne (by decide) h.box)), h.row.of_block (hg.block _ h.row.lt (h.own.ne (by decide) h.row)), StO.push hown, h.old.grown hg h.old.size (fun k e => (World.ownsRow.lt h.own k e).1)⟩
set_option maxRecDepth 100000 in
set_option maxHeartbeats 4000000 in
theorem wordsOf_any (p : Pg.Prog) (la : Option Addr) (lk : Nat) (fa : Option Addr) (fk : Nat) (wa : Option Addr) (wk : Nat) (i : Nat) (w : World) (h : BksAt la p.bn p.B w) (hr : Pg.Right p) (hi : i < p.bn) (ht : TabOk w) :
    Calls Tryd.prog 20 #[pgV p la lk fa fk wa wk, bkV (p.B i)] w fun e w' => (∃ v, e = .returned v ∧ StO w.heap.size v (Pg.wds p (p.B i)) w') ∧ Below w.heap.size w w' := by
  obtain ⟨i1, hi1, hy0, hy1, hy2⟩ := info_parts strinfo
  obtain ⟨x, hx⟩ : ∃ x, x = p.B i := ⟨_, rfl⟩
  have HRA : Hid (Pg.fp0 x.kind = 1 ∨ Pg.fp0 x.kind = 2 → 0 ≤ x.a ∧ x.a < p.bn) := fun q => by rw [hx] at q ⊢; exact Pg.ra_lt hr hi q
  have HRB : Hid (Pg.fp1 x.kind = 1 → 0 ≤ x.b ∧ x.b < p.bn) := fun q => by rw [hx] at q ⊢; exact Pg.rb_lt hr hi q
  have HRD : Hid (Pg.fp1 x.kind = 3 → 1 ≤ x.b ∧ x.b ≤ 100) := fun q => by rw [hx] at q ⊢; exact Pg.rb_del hr hi q
  rw [← hx]
  clear hx hr hi
  have HT : Hid (∀ wx, Hid (Below w.heap.size w wx) → TabOk wx) := fun wx hB => Lib.tabBelow_of_tabIs ht wx hB.out
  have H := Lib.hid h
  obtain ⟨W, hW⟩ : ∃ W, W = (w.alloc (.cells #[.slice la p.bn lk, .slice fa p.on fk, .slice wa p.nn wk] 32)).alloc (.cells #[.int .i64 x.kind, .string x.name, .int .i64 x.a, .int .i64 x.b] 41) := ⟨_, rfl⟩
  have R0 : Hid (W.rowIs w.heap.size 32 3 (rowN (pgL p la lk fa fk wa wk)) ∧ W.rowIs (w.heap.size + 1) 41 4 (rowN [.int .i64 x.kind, .string x.name, .int .i64 x.a, .int .i64 x.b]) ∧ Below w.heap.size w W) := by
    show _ ∧ _ ∧ _
    rw [hW]; exact ⟨nrow_below (rowN_alloc w _ _) (nbel_alloc _ _), rowN_alloc' (by simp) _ _, (nbel_alloc _ _).alloc (by simp) _⟩
  have HW := Lib.hid hW
  clear hW h ht
  go_enter Tryd.func20, Tryd.ntmps20
  go_wp2_with fail
  rw [← HW.out]
  refine (formOf_any x.kind _).mono ?_
  rintro e w1 ⟨rfl, hb⟩
  have R1 : Hid (w1.rowIs w.heap.size 32 3 (rowN (pgL p la lk fa fk wa wk)) ∧ w1.rowIs (w.heap.size + 1) 41 4 (rowN [.int .i64 x.kind, .string x.name, .int .i64 x.a, .int .i64 x.b]) ∧ Below w.heap.size w w1) := ⟨nrow_below R0.out.1 hb, nrow_below R0.out.2.1 hb, R0.out.2.2.trans (hb.mono R0.out.2.2.size)⟩
  obtain ⟨⟨c0, c1, c2, c3⟩, _⟩ := rowN4 R1.out.2.1
  have hlt := R1.out.2.1.lt
  have hlt2 : w.heap.size < w1.heap.size := by omega
  obtain ⟨V, hV⟩ : ∃ V, V = (w1.alloc (.cells #[.string (Pg.fw x.kind), .int .i64 (Pg.fp0 x.kind), .int .i64 (Pg.fp1 x.kind)] 69)).alloc (.cells #[.string (Pg.fw x.kind), .string x.name] 9) := ⟨_, rfl⟩
  have S2 : Hid (WoS p la lk fa fk wa wk x w1.heap.size (Pg.wdK p x 0) (.slice (some ⟨w1.heap.size + 1, 0, none⟩) 2 2) w V) := by
    have hB1 := R1.out.2.2
    show WoS _ _ _ _ _ _ _ _ _ _ _ _ _
    rw [hV]
    refine ⟨nrow_below (nrow_below R1.out.1 (nbel_alloc _ _)) (nbel_alloc _ _), nrow_below (rowN_alloc w1 _ _) (nbel_alloc _ _), ?_, (hB1.alloc hB1.size _).alloc (Nat.le_trans hB1.size (nbel_alloc w1 _).size) _⟩
    refine ⟨rfl, Or.inr ⟨w1.heap.size + 1, 2, #[.string (Pg.fw x.kind), .string x.name], rfl, by have := hB1.size; omega, ?_, by first | omega | simp [Pg.wdK], by unfold maxLen; omega, by first | rfl | simp, by first | rfl | simp [Pg.wdK]⟩⟩
    have := blk_alloc_new (w1.alloc (.cells #[.string (Pg.fw x.kind), .int .i64 (Pg.fp0 x.kind), .int .i64 (Pg.fp1 x.kind)] 69)) (.cells #[.string (Pg.fw x.kind), .string x.name] 9)
    simpa using this
  have HV := Lib.hid hV
  clear hb hV R0 R1
  go_wp2_with fail
  rw [← HV.out]
  refine (values_any x _).mono ?_
  rintro e w2 ⟨rfl, hb⟩
  have S3 := Lib.hid (S2.out.below hb)
  clear hb S2 c0 c1 c2 c3 hlt hlt2
  go_wp2_with fail
  go_loopw [6, 19] (fun v jv wr => ∃ (j : Nat), j ≤ 2 ∧ jv = .int .i64 j ∧ Hid (WoS p la lk fa fk wa wk x w1.heap.size (Pg.wdK p x j) v w wr)) (fun _ jv _ => 2 - (intOf jv).toNat)
  case atStart => exact ⟨0, by omega, rfl, S3⟩
  case round =>
    obtain ⟨j, hj, rfl, hS⟩ := hrel
    clear S3
    have hwl := Pg.wdK_len p x j
    have : j = 0 ∨ j = 1 ∨ j = 2 := by omega
    obtain ⟨⟨c0, c1, c2⟩, _⟩ := rowN3 hS.out.row
    obtain ⟨⟨b0, b1, b2⟩, _⟩ := rowN3 hS.out.box
    have x0 := pidx0 x.a x.b
    have x1 := pidx1 x.a x.b
    rcases this with rfl | rfl | rfl
    · by_cases k : Pg.fp0 x.kind = 1 ∨ Pg.fp0 x.kind = 2
      · obtain ⟨q1, q2⟩ := HRA.out k
        have HST : Hid (Pg.wdK p x 1 = Pg.wdK p x 0 ++ [Pg.nmAt p x.a]) := by
          show _ = _
          simp [Pg.wdK, Pg.wa, k]
        rcases k with k | k
        · have k1 : (Pg.fp0 x.kind == 1) = true := by simp [k]
          clear k
          go_wp2_with fail
          refine (nameAt_any p la lk fa fk wa wk x.a _ (H.out.below hS.out.old) q1 q2).mono ?_
          rintro e w3 ⟨rfl, hb⟩
          have S4 := Lib.hid (hS.out.below hb)
          have hsz := S4.out.old.size
          clear hb hS c0 c1 c2 b0 b1 b2 x0 x1
          go_wp2_with (at_builtin; refine wpList_append_own _ rfl _ _ 42 rfl w.heap.size 9 i1 _ 1 16 Tryd.underlying42 hi1 hy0 hy1 hy2 rfl (by decide) _ _ _ rfl (World.ownsRow.alloc S4.out.own _) ⟨w3.heap.size, 0, none⟩ 1 1 [.string (Pg.nmAt p x.a)] rfl rfl ?da1 ?da2 ?da3 ?da4 ?da5 ?_)
          case da1 =>
            intro q x hq
            match q, hq with
            | 0, hq =>
              simp at hq
              subst hq
              exact (rowN_alloc w3 [.string (Pg.nmAt p x.a)] 9).cell (i := 0) (by simp)
          case da2 =>
            intro x hx
            simp at hx
            subst hx
            rfl
          case da3 => unfold maxLen; omega
          case da4 => omega
          case da5 => simp; omega
          intro v5 W5 hown hgrow hnil
          have S5 : Hid (WoS p la lk fa fk wa wk x w1.heap.size (Pg.wdK p x 1) v5 w W5) := by
            show WoS _ _ _ _ _ _ _ _ _ _ _ _ _
            rw [HST.out]; exact (S4.out.below (nbel_alloc _ _)).grown hown hgrow
          clear hown hgrow hnil S4
          go_wp2_with fail
          go_roundw
          case rel => exact ⟨1, by omega, by go_num, S5⟩
          case measure => simp [intOf]
        · have k1 : (Pg.fp0 x.kind == 1) = false := by simp [k]
          have k2 : (Pg.fp0 x.kind == 2) = true := by simp [k]
          clear k
          go_wp2_with fail
          refine (nameAt_any p la lk fa fk wa wk x.a _ (H.out.below hS.out.old) q1 q2).mono ?_
          rintro e w3 ⟨rfl, hb⟩
          have S4 := Lib.hid (hS.out.below hb)
          have hsz := S4.out.old.size
          clear hb hS c0 c1 c2 b0 b1 b2 x0 x1
          go_wp2_with (at_builtin; refine wpList_append_own _ rfl _ _ 42 rfl w.heap.size 9 i1 _ 1 16 Tryd.underlying42 hi1 hy0 hy1 hy2 rfl (by decide) _ _ _ rfl (World.ownsRow.alloc S4.out.own _) ⟨w3.heap.size, 0, none⟩ 1 1 [.string (Pg.nmAt p x.a)] rfl rfl ?db1 ?db2 ?db3 ?db4 ?db5 ?_)
          case db1 =>
            intro q x hq
            match q, hq with
            | 0, hq =>
              simp at hq
              subst hq
              exact (rowN_alloc w3 [.string (Pg.nmAt p x.a)] 9).cell (i := 0) (by simp)
          case db2 =>
            intro x hx
            simp at hx
            subst hx
            rfl
          case db3 => unfold maxLen; omega
          case db4 => omega
          case db5 => simp; omega
          intro v5 W5 hown hgrow hnil
          have S5 : Hid (WoS p la lk fa fk wa wk x w1.heap.size (Pg.wdK p x 1) v5 w W5) := by
            show WoS _ _ _ _ _ _ _ _ _ _ _ _ _
            rw [HST.out]; exact (S4.out.below (nbel_alloc _ _)).grown hown hgrow
          clear hown hgrow hnil S4
          go_wp2_with fail
          go_roundw
          case rel => exact ⟨1, by omega, by go_num, S5⟩
          case measure => simp [intOf]
      · have k0 : Pg.fp0 x.kind = 0 := by have := Pg.fp0_012 x.kind; omega
        have HST : Hid (Pg.wdK p x 1 = Pg.wdK p x 0) := by
          show _ = _
          simp [Pg.wdK, Pg.wa, k0]
        have k1 : (Pg.fp0 x.kind == 1) = false := by simp [k0]
        have k2 : (Pg.fp0 x.kind == 2) = false := by simp [k0]
        have k3 : (Pg.fp0 x.kind == 3) = false := by simp [k0]
        have S4 : Hid (∀ v, WoS p la lk fa fk wa wk x w1.heap.size (Pg.wdK p x 0) v w wr → Hid (WoS p la lk fa fk wa wk x w1.heap.size (Pg.wdK p x 1) v w wr)) := fun v q => by
          show WoS _ _ _ _ _ _ _ _ _ _ _ _ _
          rw [HST.out]; exact q
        clear k k0
        go_wp2_with fail
        go_roundw
        case rel => exact ⟨1, by omega, by go_num, S4.out _ hS.out⟩
        case measure => simp [intOf]
    · rcases Pg.fp1_013 x.kind with k | k | k
      · have HST : Hid (Pg.wdK p x 2 = Pg.wdK p x 1) := by
          show _ = _
          simp [Pg.wdK, Pg.wds, Pg.wb, k]
        have k1 : (Pg.fp1 x.kind == 1) = false := by simp [k]
        have k2 : (Pg.fp1 x.kind == 2) = false := by simp [k]
        have k3 : (Pg.fp1 x.kind == 3) = false := by simp [k]
        have S4 : Hid (∀ v, WoS p la lk fa fk wa wk x w1.heap.size (Pg.wdK p x 1) v w wr → Hid (WoS p la lk fa fk wa wk x w1.heap.size (Pg.wdK p x 2) v w wr)) := fun v q => by
          show WoS _ _ _ _ _ _ _ _ _ _ _ _ _
          rw [HST.out]; exact q
        clear k
        go_wp2_with fail
        go_roundw
        case rel => exact ⟨2, by omega, by go_num, S4.out _ hS.out⟩
        case measure => simp [intOf]
      · obtain ⟨q1, q2⟩ := HRB.out k
        have HST : Hid (Pg.wdK p x 2 = Pg.wdK p x 1 ++ [Pg.nmAt p x.b]) := by
          show _ = _
          simp [Pg.wdK, Pg.wds, Pg.wb, k]
        have k1 : (Pg.fp1 x.kind == 1) = true := by simp [k]
        clear k
        go_wp2_with fail
        refine (nameAt_any p la lk fa fk wa wk x.b _ (H.out.below hS.out.old) q1 q2).mono ?_
        rintro e w3 ⟨rfl, hb⟩
        have S4 := Lib.hid (hS.out.below hb)
        have hsz := S4.out.old.size
        clear hb hS c0 c1 c2 b0 b1 b2 x0 x1
        go_wp2_with (at_builtin; refine wpList_append_own _ rfl _ _ 42 rfl w.heap.size 9 i1 _ 1 16 Tryd.underlying42 hi1 hy0 hy1 hy2 rfl (by decide) _ _ _ rfl (World.ownsRow.alloc S4.out.own _) ⟨w3.heap.size, 0, none⟩ 1 1 [.string (Pg.nmAt p x.b)] rfl rfl ?dc1 ?dc2 ?dc3 ?dc4 ?dc5 ?_)
        case dc1 =>
          intro q x hq
          match q, hq with
          | 0, hq =>
            simp at hq
            subst hq
            exact (rowN_alloc w3 [.string (Pg.nmAt p x.b)] 9).cell (i := 0) (by simp)
        case dc2 =>
          intro x hx
          simp at hx
          subst hx
          rfl
        case dc3 => unfold maxLen; omega
        case dc4 => omega
        case dc5 => simp; omega
        intro v5 W5 hown hgrow hnil
        have S5 : Hid (WoS p la lk fa fk wa wk x w1.heap.size (Pg.wdK p x 2) v5 w W5) := by
          show WoS _ _ _ _ _ _ _ _ _ _ _ _ _
          rw [HST.out]; exact (S4.out.below (nbel_alloc _ _)).grown hown hgrow
        clear hown hgrow hnil S4
        go_wp2_with fail
        go_roundw
        case rel => exact ⟨2, by omega, by go_num, S5⟩
        case measure => simp [intOf]
      · obtain ⟨q1, q2⟩ := HRD.out k
        have HST : Hid (Pg.wdK p x 2 = Pg.wdK p x 1 ++ [⟨(Lib.itoa x.b).toArray⟩]) := by
          show _ = _
          simp [Pg.wdK, Pg.wds, Pg.wb, k]
        have k1 : (Pg.fp1 x.kind == 1) = false := by simp [k]
        have k2 : (Pg.fp1 x.kind == 2) = false := by simp [k]
        have k3 : (Pg.fp1 x.kind == 3) = true := by simp [k]
        clear k
        go_wp2_with fail
        refine (fmt_any x.b (by omega) (by omega) _ (HT.out _ hS.out.old)).mono ?_
        rintro e w3 ⟨rfl, hb⟩
        have S4 := Lib.hid (hS.out.below hb)
        have hsz := S4.out.old.size
        clear hb hS c0 c1 c2 b0 b1 b2 x0 x1
        go_wp2_with (at_builtin; refine wpList_append_own _ rfl _ _ 42 rfl w.heap.size 9 i1 _ 1 16 Tryd.underlying42 hi1 hy0 hy1 hy2 rfl (by decide) _ _ _ rfl (World.ownsRow.alloc S4.out.own _) ⟨w3.heap.size, 0, none⟩ 1 1 [.string ⟨(Lib.itoa x.b).toArray⟩] rfl rfl ?dd1 ?dd2 ?dd3 ?dd4 ?dd5 ?_)
        case dd1 =>
          intro q x hq
          match q, hq with
          | 0, hq =>
            simp at hq
            subst hq
            exact (rowN_alloc w3 [.string ⟨(Lib.itoa x.b).toArray⟩] 9).cell (i := 0) (by simp)
        case dd2 =>
          intro x hx
          simp at hx
          subst hx
          rfl
        case dd3 => unfold maxLen; omega
        case dd4 => omega
        case dd5 => simp; omega
        intro v5 W5 hown hgrow hnil
        have S5 : Hid (WoS p la lk fa fk wa wk x w1.heap.size (Pg.wdK p x 2) v5 w W5) := by
          show WoS _ _ _ _ _ _ _ _ _ _ _ _ _
          rw [HST.out]; exact (S4.out.below (nbel_alloc _ _)).grown hown hgrow
        clear hown hgrow hnil S4
        go_wp2_with fail
        go_roundw
        case rel => exact ⟨2, by omega, by go_num, S5⟩
        case measure => simp [intOf]
    · go_wp2_with fail
      go_ret
      exact ⟨⟨_, rfl, hS.out.own⟩, hS.out.old⟩
end Go.Proofs.YtiaeobocenanlaaDoor
