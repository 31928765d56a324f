/-
  The text of a program: the program's, whole.
-/
import Derived.Test.YtiaeobocenanlaaDoorPgTw
namespace Go.Proofs.YtiaeobocenanlaaDoor
open Go.RowKit Go.Deep

/-- What stands while lines are gathered. -/
structure TxS (p : Pg.Prog) (la : Option Addr) (lk : Nat) (fa : Option Addr) (fk : Nat) (wa : Option Addr) (wk : Nat) (ls : List ByteArray) (v : Value) (w W : World) : Prop where
  box : W.rowIs w.heap.size 32 3 (rowN (pgL p la lk fa fk wa wk))
  own : StO w.heap.size v ls W
  old : Below w.heap.size w W
theorem TxS.below {p : Pg.Prog} {la : Option Addr} {lk : Nat} {fa : Option Addr} {fk : Nat} {wa : Option Addr} {wk : Nat} {ls : List ByteArray} {v : Value} {w W W' : World} (h : TxS p la lk fa fk wa wk ls v w W) (hb : Below W.heap.size W W') : TxS p la lk fa fk wa wk ls v w W' := ⟨nrow_below h.box hb, h.own.below hb, h.old.trans (hb.mono h.old.size)⟩
theorem TxS.grown {p : Pg.Prog} {la : Option Addr} {lk : Nat} {fa : Option Addr} {fk : Nat} {wa : Option Addr} {wk : Nat} {ls : List ByteArray} {s : ByteArray} {v v' : Value} {w W W' : World} (h : TxS p la lk fa fk wa wk ls v w W) (hown : W'.ownsRow w.heap.size 9 1 v' (ls.length + 1) (ls.map Value.string ++ [.string s])) (hg : W.grownBy W' v.ownBlock) : TxS p la lk fa fk wa wk (ls ++ [s]) v' w W' :=
  ⟨h.box.of_block (hg.block _ h.box.lt (h.own.ne (by decide) h.box)), StO.push hown, h.old.grown hg h.old.size (fun k e => (World.ownsRow.lt h.own k e).1)⟩
/-- The lines of all three kinds. -/
def Pg.lnK (p : Pg.Prog) (i j k : Nat) : List ByteArray := Pg.lns (Pg.bLine p) i ++ Pg.lns (Pg.oLine p) j ++ Pg.lns (Pg.nLine p) k
theorem Pg.lnK_len (p : Pg.Prog) (i j k : Nat) : (Pg.lnK p i j k).length = i + j + k := by simp [Pg.lnK, Pg.lns_len]; omega
theorem Pg.lnK_b (p : Pg.Prog) (i : Nat) : Pg.lnK p (i + 1) 0 0 = Pg.lnK p i 0 0 ++ [⟨(Pg.bLine p i).toArray⟩] := by simp [Pg.lnK, Pg.lns, List.range_succ]
theorem Pg.lnK_o (p : Pg.Prog) (i j : Nat) : Pg.lnK p i (j + 1) 0 = Pg.lnK p i j 0 ++ [⟨(Pg.oLine p j).toArray⟩] := by simp [Pg.lnK, Pg.lns, List.range_succ]
theorem Pg.lnK_n (p : Pg.Prog) (i j k : Nat) : Pg.lnK p i j (k + 1) = Pg.lnK p i j k ++ [⟨(Pg.nLine p k).toArray⟩] := by simp [Pg.lnK, Pg.lns_succ]
theorem Pg.lnK_all (p : Pg.Prog) : ((Pg.lnK p p.bn p.on p.nn).map (·.data.toList)).flatten = Pg.textL p := by
  unfold Pg.lnK Pg.textL
  rw [List.map_append, List.map_append, List.flatten_append, List.flatten_append, Pg.lns_cat, Pg.lns_cat, Pg.lns_cat]
theorem Pg.textL_len {p : Pg.Prog} (h : Pg.Right p) : (Pg.textL p).length ≤ 60000 := by
  have h1 := Pg.cat_len (f := Pg.bLine p) (fun i hi => Pg.bLine_len h hi) p.bn (Nat.le_refl _)
  have h2 := Pg.cat_len (f := Pg.oLine p) (fun i hi => Pg.oLine_len h hi) p.on (Nat.le_refl _)
  have h3 := Pg.cat_len (f := Pg.nLine p) (fun i hi => Pg.nLine_len h hi) p.nn (Nat.le_refl _)
  have := h.n
  have := h.on
  have := h.m
  unfold Pg.textL
  simp only [List.length_append]
  omega
set_option maxRecDepth 100000 in
set_option maxHeartbeats 8000000 in
theorem implText_any' (p : Pg.Prog) (la : Option Addr) (lk : Nat) (fa : Option Addr) (fk : Nat) (wa : Option Addr) (wk : Nat) (w : World) (h : PgAt p la fa wa w) (hs : PgSmall p) (ht : TabOk w) :
    Calls Tryd.prog 7 #[pgV p la lk fa fk wa wk] w fun e w' => e = .returned (.string (Pg.text p)) ∧ Below w.heap.size w w' := by
  obtain ⟨i1, hi1, hy0, hy1, hy2⟩ := info_parts strinfo
  have HT : Hid (∀ wx, Below w.heap.size w wx → TabOk wx) := fun wx hB => Lib.tabBelow_of_tabIs ht wx hB
  obtain ⟨W, hW⟩ : ∃ W, W = w.alloc (.cells #[.slice la p.bn lk, .slice fa p.on fk, .slice wa p.nn wk] 32) := ⟨_, rfl⟩
  have S0 : SpB p la lk fa fk wa wk w W := by rw [hW]; exact ⟨rowN_alloc w _ _, nbel_alloc _ _⟩
  have H := Lib.hid h
  have HS := Lib.hid hs
  have HW := Lib.hid hW
  have HS0 := Lib.hid S0
  clear h hs hW S0 ht
  go_enter Tryd.func7, Tryd.ntmps7
  go_wp2_with fail
  rw [← HW.out]
  refine (implPRight_any p la lk fa fk wa wk _ (H.out.below HS0.out.old) HS.out).mono ?_
  rintro e w1 ⟨rfl, hb⟩
  have S1 := Lib.hid (HS0.out.below hb)
  clear hb HS0
  by_cases k : Pg.Right p
  · rw [dB_tt k]
    have HR := Lib.hid k
    have hbn : p.bn ≤ 100 := k.n
    have hon : p.on ≤ 100 := k.on
    have hnn : p.nn ≤ 100 := k.m
    have HTX := Lib.hid (Pg.text_yes k)
    clear k
    obtain ⟨⟨x0, x1, x2⟩, _⟩ := rowN3 S1.out.box
    have S2 : Hid (TxS p la lk fa fk wa wk (Pg.lnK p 0 0 0) (.slice none 0 0) w w1) := ⟨S1.out.box, StO.nil _ _, S1.out.old⟩
    go_wp2_with fail
    clear x0 x1 x2 S1
    go_loopw [3, 16] (fun v iv wr => ∃ (i : Nat), i ≤ p.bn ∧ iv = .int .i64 i ∧ Hid (TxS p la lk fa fk wa wk (Pg.lnK p i 0 0) v w wr)) (fun _ iv _ => p.bn - (intOf iv).toNat)
    case atStart => exact ⟨0, Nat.zero_le _, rfl, S2⟩
    case round =>
      obtain ⟨i, hi, rfl, hS⟩ := hrel
      clear S2
      have hkl : (Pg.lnK p i 0 0).length ≤ 100 := by rw [Pg.lnK_len]; omega
      obtain ⟨⟨x0, x1, x2⟩, _⟩ := rowN3 hS.out.box
      by_cases hlt : i < p.bn
      · have hltz : (i : Int) < (p.bn : Int) := by omega
        obtain ⟨b, eb, c0, c1, c2, c3⟩ := (H.out.l.below hS.out.old).at_ hlt
        subst eb
        have hbl : b < wr.heap.size := World.block_lt_of_cell? _ _ c0
        have hxl := hS.out.box.lt
        have S3 := Lib.hid (hS.out.below (nbel_alloc wr (.cells #[.int .i64 (p.B i).kind, .string (p.B i).name, .int .i64 (p.B i).a, .int .i64 (p.B i).b] 41)))
        clear hS
        go_wp2_with fail
        refine (wordsOf_any p (some ⟨b, 0, none⟩) lk fa fk wa wk i _ (H.out.l.below S3.out.old) HR.out hlt (HT.out _ S3.out.old)).mono ?_
        rintro e w2 ⟨⟨vw, rfl, hO⟩, hb⟩
        have S4 := Lib.hid (S3.out.below hb)
        have hwl := Pg.wdK_len p (p.B i) 2
        obtain ⟨g, c, rfl, hg, hcap, hcs⟩ := hO.cells (by intro q; have : (Pg.wdK p (p.B i) 2).length = 0 := by (show (Pg.wds p (p.B i)).length = 0); rw [q]; rfl
                                                          omega)
        have hll := Pg.bLine_len HR.out hlt
        clear hb S3 hO x0 x1 x2 c0 c1 c2 c3 hbl hxl
        go_wp2_with fail
        refine (lineBy_any g c (Pg.wds p (p.B i)) _ hcs hg (by have : (Pg.wds p (p.B i)).length ≤ 4 := hwl.2; omega) hcap (by have : (Pg.bLine p i).length ≤ 200 := hll; show (Pg.bLine p i).length ≤ 1000; omega)).mono ?_
        rintro e w3 ⟨rfl, hb⟩
        have S5 := Lib.hid (S4.out.below hb)
        have hsz := S5.out.old.size
        have eB : Pg.lineOf (Pg.wds p (p.B i)) = Pg.bLine p i := rfl
        rw [eB]
        clear hb S4 hcs hg hcap eB
        go_wp2_with (at_builtin; refine wpList_append_own _ rfl _ _ 42 rfl w.heap.size 9 i1 _ 1 16 Tryd.underlying42 hi1 hy0 hy1 hy2 rfl (by decide) _ _ _ rfl (World.ownsRow.alloc S5.out.own _) ⟨w3.heap.size, 0, none⟩ 1 1 [.string ⟨(Pg.bLine p i).toArray⟩] rfl rfl ?ea1 ?ea2 ?ea3 ?ea4 ?ea5 ?_)
        case ea1 =>
          intro q x hq
          match q, hq with
          | 0, hq =>
            simp at hq
            subst hq
            exact (rowN_alloc w3 [.string ⟨(Pg.bLine p i).toArray⟩] 9).cell (i := 0) (by simp)
        case ea2 =>
          intro x hx
          simp at hx
          subst hx
          rfl
        case ea3 => unfold maxLen; omega
        case ea4 => omega
        case ea5 => simp; omega
        intro v5 W5 hown hgrow hnil
        have S6 : Hid (TxS p (some ⟨b, 0, none⟩) lk fa fk wa wk (Pg.lnK p (i + 1) 0 0) v5 w W5) := by
          show TxS _ _ _ _ _ _ _ _ _ _ _
          rw [Pg.lnK_b]; exact (S5.out.below (nbel_alloc _ _)).grown hown hgrow
        clear hown hgrow hnil S5
        go_wp2_with fail
        go_roundw
        case rel => exact ⟨i + 1, by omega, by go_num, S6⟩
        case measure => simp [intOf]; omega
      · obtain rfl : i = p.bn := by omega
        obtain ⟨Q, hQ⟩ : ∃ Q, Q = wr := ⟨_, rfl⟩
        subst hQ
        have S2 := hS
        clear hS
        go_wp2_with fail
        clear x0 x1 x2
        go_loopw [3, 31] (fun v iv wr => ∃ (j : Nat), j ≤ p.on ∧ iv = .int .i64 j ∧ Hid (TxS p la lk fa fk wa wk (Pg.lnK p p.bn j 0) v w wr)) (fun _ iv _ => p.on - (intOf iv).toNat)
        case atStart => exact ⟨0, Nat.zero_le _, rfl, S2⟩
        case round =>
          obtain ⟨j, hj, rfl, hS⟩ := hrel
          clear S2
          have hkl : (Pg.lnK p p.bn j 0).length ≤ 200 := by rw [Pg.lnK_len]; omega
          obtain ⟨⟨x0, x1, x2⟩, _⟩ := rowN3 hS.out.box
          by_cases hlt2 : j < p.on
          · have hltz : (j : Int) < (p.on : Int) := by omega
            obtain ⟨b, eb, c0⟩ := (H.out.f.below hS.out.old).at1 hlt2
            subst eb
            have ho := Pg.out_lt HR.out hlt2
            go_wp2_with fail
            refine (nameAt_any p la lk (some ⟨b, 0, none⟩) fk wa wk (p.O j) _ (H.out.l.below hS.out.old) ho.1 ho.2).mono ?_
            rintro e w2 ⟨rfl, hb⟩
            have S4 := Lib.hid (hS.out.below hb)
            obtain ⟨V, hV⟩ : ∃ V, V = w2.alloc (.cells #[.string (Pg.wd 8), .string (Pg.nmAt p (p.O j))] 9) := ⟨_, rfl⟩
            have S5 : Hid (TxS p la lk (some ⟨b, 0, none⟩) fk wa wk (Pg.lnK p p.bn j 0) u3 w V) := by
              show TxS _ _ _ _ _ _ _ _ _ _ _
              rw [hV]; exact S4.out.below (nbel_alloc _ _)
            have RV : V.rowIs w2.heap.size 9 2 (rowN [.string (Pg.wd 8), .string (Pg.nmAt p (p.O j))]) := by rw [hV]; exact rowN_alloc w2 _ _
            obtain ⟨⟨v0, v1⟩, _⟩ := rowN2 RV
            have hcs : ∀ (q : Nat) x, [Pg.wd 8, Pg.nmAt p (p.O j)][q]? = some x → V.cell? ⟨w2.heap.size, 0 + q, none⟩ = some (.string x) := fun q x hq => by
              match q, hq with
              | 0, hq => simp at hq; subst hq; exact v0
              | 1, hq => simp at hq; subst hq; exact v1
            have hvl := RV.lt
            have hll := Pg.oLine_len HR.out hlt2
            have HV : Hid (V = w2.alloc (.cells #[.string ⟨#[111, 117, 116]⟩, .string (Pg.nmAt p (p.O j))] 9)) := hV
            clear hb hS S4 x0 x1 x2 c0 hV RV v0 v1
            go_wp2_with fail
            rw [← HV.out]
            refine (lineBy_any w2.heap.size 2 [Pg.wd 8, Pg.nmAt p (p.O j)] _ hcs hvl (by simp) (by simp) (by show (Pg.oLine p j).length ≤ 1000; omega)).mono ?_
            rintro e w3 ⟨rfl, hb⟩
            have S6 := Lib.hid (S5.out.below hb)
            have hsz := S6.out.old.size
            have eB : Pg.lineOf [Pg.wd 8, Pg.nmAt p (p.O j)] = Pg.oLine p j := rfl
            rw [eB]
            clear hb S5 hcs hvl eB
            go_wp2_with (at_builtin; refine wpList_append_own _ rfl _ _ 42 rfl w.heap.size 9 i1 _ 1 16 Tryd.underlying42 hi1 hy0 hy1 hy2 rfl (by decide) _ _ _ rfl (World.ownsRow.alloc S6.out.own _) ⟨w3.heap.size, 0, none⟩ 1 1 [.string ⟨(Pg.oLine p j).toArray⟩] rfl rfl ?eb1 ?eb2 ?eb3 ?eb4 ?eb5 ?_)
            case eb1 =>
              intro q x hq
              match q, hq with
              | 0, hq =>
                simp at hq
                subst hq
                exact (rowN_alloc w3 [.string ⟨(Pg.oLine p j).toArray⟩] 9).cell (i := 0) (by simp)
            case eb2 =>
              intro x hx
              simp at hx
              subst hx
              rfl
            case eb3 => unfold maxLen; omega
            case eb4 => omega
            case eb5 => simp; omega
            intro v5 W5 hown hgrow hnil
            have S7 : Hid (TxS p la lk (some ⟨b, 0, none⟩) fk wa wk (Pg.lnK p p.bn (j + 1) 0) v5 w W5) := by
              show TxS _ _ _ _ _ _ _ _ _ _ _
              rw [Pg.lnK_o]; exact (S6.out.below (nbel_alloc _ _)).grown hown hgrow
            clear hown hgrow hnil S6
            go_wp2_with fail
            go_roundw
            case rel => exact ⟨j + 1, by omega, by go_num, S7⟩
            case measure => simp [intOf]; omega
          · obtain rfl : j = p.on := by omega
            obtain ⟨Q, hQ⟩ : ∃ Q, Q = wr := ⟨_, rfl⟩
            subst hQ
            have S2 := hS
            clear hS
            go_wp2_with fail
            clear x0 x1 x2
            go_loopw [3, 47] (fun v iv wr => ∃ (k : Nat), k ≤ p.nn ∧ iv = .int .i64 k ∧ Hid (TxS p la lk fa fk wa wk (Pg.lnK p p.bn p.on k) v w wr)) (fun _ iv _ => p.nn - (intOf iv).toNat)
            case atStart => exact ⟨0, Nat.zero_le _, rfl, S2⟩
            case round =>
              obtain ⟨k, hk, rfl, hS⟩ := hrel
              clear S2
              have hkl : (Pg.lnK p p.bn p.on k).length ≤ 300 := by rw [Pg.lnK_len]; omega
              by_cases hlt3 : k < p.nn
              · have hltz : (k : Int) < (p.nn : Int) := by omega
                obtain ⟨b, eb, c0, c1⟩ := (H.out.w.below hS.out.old).at2 hlt3
                subst eb
                have hbl : b < wr.heap.size := World.block_lt_of_cell? _ _ c0
                have ho := Pg.nev_lt HR.out hlt3
                have hll := Pg.nLine_len HR.out hlt3
                obtain ⟨A, hA⟩ : ∃ A, A = p.N (k * 2) := ⟨_, rfl⟩
                obtain ⟨B, hB⟩ : ∃ A, A = p.N (k * 2 + 1) := ⟨_, rfl⟩
                have eL : Pg.lineOf [Pg.wd 9, Pg.nmAt p A, Pg.nmAt p B] = Pg.nLine p k := by rw [hA, hB]; rfl
                rw [← hA] at c0 ho
                rw [← hB] at c1 ho
                have HEL := Lib.hid eL
                have HO := Lib.hid ho
                have HLL := Lib.hid hll
                obtain ⟨V, hV⟩ : ∃ V, V = wr.alloc (.cells #[.int .i64 A, .int .i64 B] 46) := ⟨_, rfl⟩
                have S3 : Hid (TxS p la lk fa fk (some ⟨b, 0, none⟩) wk (Pg.lnK p p.bn p.on k) u3 w V ∧ V.rowIs wr.heap.size 46 2 (rowN [.int .i64 A, .int .i64 B])) := by
                  show _ ∧ _
                  rw [hV]; exact ⟨hS.out.below (nbel_alloc _ _), rowN_alloc wr _ _⟩
                have HV := Lib.hid hV
                clear hA hB eL ho hll hV hS
                go_wp2_with fail
                rw [← HV.out]
                refine wp_region_held_drew (S := fun U => SpB p la lk fa fk (some ⟨b, 0, none⟩) wk w U ∧ U.rowIs wr.heap.size 46 2 (rowN [.int .i64 A, .int .i64 B])) (by kernel_rfl) ⟨SpB.below ⟨S3.out.1.box, S3.out.1.old⟩ (Below.refl _ _).drew, nrow_below S3.out.2 (Below.refl _ _).drew⟩ (fun hHeld => ?_)
                obtain ⟨Z, hZ⟩ : ∃ Z, Z = V.drew := ⟨_, rfl⟩
                have OWN : Hid (StO w.heap.size u3 (Pg.lnK p p.bn p.on k) Z) := by show StO _ _ _ _; rw [hZ]; exact S3.out.1.own.below (Below.refl _ _).drew
                rw [← hZ] at hHeld ⊢
                clear hZ S3 c0 c1 hbl HV
                refine take_do (i := 0) (v := u3) rfl (by kernel_rfl) (by kernel_rfl) (by kernel_rfl) (fun _ _ _ h => h) (by rfl) ?_ (by assumption) ?_
                · intro w hSw
                  skip
                  go_simp
                simp only [Act.put, List.setIfInBounds_toArray, List.set_cons_zero, List.set_cons_succ]
                refine take_do (i := 1) (v := (pgV p la lk fa fk (some ⟨b, 0, none⟩) wk)) rfl (by kernel_rfl) (by kernel_rfl) (by kernel_rfl) (fun _ _ _ h => h) (by rfl) ?_ (by assumption) ?_
                · intro w hSw
                  obtain ⟨⟨y0, y1, y2⟩, _⟩ := rowN3 hSw.1.box
                  go_simp
                simp only [Act.put, List.setIfInBounds_toArray, List.set_cons_zero, List.set_cons_succ]
                refine take_do (i := 2) (v := (.pointer (some ⟨wr.heap.size, 0, none⟩))) rfl (by kernel_rfl) (by kernel_rfl) (by kernel_rfl) (fun _ _ _ h => h) (by rfl) ?_ (by assumption) ?_
                · intro w hSw
                  skip
                  go_simp
                simp only [Act.put, List.setIfInBounds_toArray, List.set_cons_zero, List.set_cons_succ]
                refine take_do (i := 3) (v := (.int .i64 A)) rfl (by kernel_rfl) (by kernel_rfl) (by kernel_rfl) (fun _ _ _ h => h) (by rfl) ?_ (by assumption) ?_
                · intro w hSw
                  obtain ⟨⟨y0, y1⟩, _⟩ := rowN2 hSw.2
                  go_simp
                simp only [Act.put, List.setIfInBounds_toArray, List.set_cons_zero, List.set_cons_succ]
                refine take_do (i := 5) (v := (pgV p la lk fa fk (some ⟨b, 0, none⟩) wk)) rfl (by kernel_rfl) (by kernel_rfl) (by kernel_rfl) (fun _ _ _ h => h) (by rfl) ?_ (by assumption) ?_
                · intro w hSw
                  obtain ⟨⟨y0, y1, y2⟩, _⟩ := rowN3 hSw.1.box
                  go_simp
                simp only [Act.put, List.setIfInBounds_toArray, List.set_cons_zero, List.set_cons_succ]
                refine take_do (i := 6) (v := (.pointer (some ⟨wr.heap.size, 1, none⟩))) rfl (by kernel_rfl) (by kernel_rfl) (by kernel_rfl) (fun _ _ _ h => h) (by rfl) ?_ (by assumption) ?_
                · intro w hSw
                  skip
                  go_simp
                simp only [Act.put, List.setIfInBounds_toArray, List.set_cons_zero, List.set_cons_succ]
                refine take_do (i := 7) (v := (.int .i64 B)) rfl (by kernel_rfl) (by kernel_rfl) (by kernel_rfl) (fun _ _ _ h => h) (by rfl) ?_ (by assumption) ?_
                · intro w hSw
                  obtain ⟨⟨y0, y1⟩, _⟩ := rowN2 hSw.2
                  go_simp
                simp only [Act.put, List.setIfInBounds_toArray, List.set_cons_zero, List.set_cons_succ]
                refine take_call (i := 4) rfl (by kernel_rfl) (fun K2 hK => ?_)
                go_simp
                refine (nameAt_any p la lk fa fk (some ⟨b, 0, none⟩) wk A _ (H.out.l.below hHeld.1.old) HO.out.1.1 HO.out.1.2).mono ?_
                rintro e w2 ⟨rfl, hb⟩
                replace OWN := Lib.hid (OWN.out.below hb)
                go_wp2_with fail
                refine hK.out _ _ ⟨hHeld.1.below hb, nrow_below hHeld.2 hb⟩ (fun hHeld2 => ?_)
                clear hK hHeld hb
                have hHeld := hHeld2
                clear hHeld2
                refine take_call (i := 8) rfl (by kernel_rfl) (fun K2 hK => ?_)
                go_simp
                refine (nameAt_any p la lk fa fk (some ⟨b, 0, none⟩) wk B _ (H.out.l.below hHeld.1.old) HO.out.2.1 HO.out.2.2).mono ?_
                rintro e w3 ⟨rfl, hb⟩
                replace OWN := Lib.hid (OWN.out.below hb)
                go_wp2_with fail
                refine hK.out _ _ ⟨hHeld.1.below hb, nrow_below hHeld.2 hb⟩ (fun hHeld2 => ?_)
                clear hK hHeld hb
                have hHeld := hHeld2
                clear hHeld2
                refine take_call (i := 9) rfl (by kernel_rfl) (fun K2 hK => ?_)
                go_simp
                refine hK.out _ _ ⟨hHeld.1.below (nbel_alloc _ _), nrow_below hHeld.2 (nbel_alloc _ _)⟩ (fun hHeld2 => ?_)
                clear hK hHeld
                have hHeld := hHeld2
                clear hHeld2
                have RV := rowN_alloc w3 [.string (Pg.wd 9), .string (Pg.nmAt p A), .string (Pg.nmAt p B)] 9
                obtain ⟨⟨v0, v1, v2⟩, _⟩ := rowN3 RV
                obtain ⟨V2, hV2⟩ : ∃ V2, V2 = w3.alloc (.cells #[.string (Pg.wd 9), .string (Pg.nmAt p A), .string (Pg.nmAt p B)] 9) := ⟨_, rfl⟩
                have hcs : ∀ (q : Nat) x, [Pg.wd 9, Pg.nmAt p A, Pg.nmAt p B][q]? = some x → V2.cell? ⟨w3.heap.size, 0 + q, none⟩ = some (.string x) := fun q x hq => by
                  rw [hV2]
                  match q, hq with
                  | 0, hq => simp at hq; subst hq; exact v0
                  | 1, hq => simp at hq; subst hq; exact v1
                  | 2, hq => simp at hq; subst hq; exact v2
                have hvl : w3.heap.size < V2.heap.size := by rw [hV2]; exact RV.lt
                have hV3 : w3.alloc (.cells #[.string ⟨#[110, 101, 118, 101, 114]⟩, .string (Pg.nmAt p A), .string (Pg.nmAt p B)] 9) = V2 := hV2.symm
                rw [hV3] at hHeld ⊢
                replace OWN : Hid (StO w.heap.size u3 (Pg.lnK p p.bn p.on k) V2) := by show StO _ _ _ _; rw [hV2]; exact OWN.out.below (nbel_alloc _ _)
                clear hV2 hV3 RV v0 v1 v2
                refine take_call (i := 10) rfl (by kernel_rfl) (fun K2 hK => ?_)
                go_simp
                refine (lineBy_any w3.heap.size 3 [Pg.wd 9, Pg.nmAt p A, Pg.nmAt p B] _ hcs hvl (by simp) (by simp) (by rw [HEL.out]; have := HLL.out; omega)).mono ?_
                rintro e w4 ⟨rfl, hb⟩
                replace OWN := Lib.hid (OWN.out.below hb)
                rw [HEL.out]
                go_wp2_with fail
                refine hK.out _ _ ⟨hHeld.1.below hb, nrow_below hHeld.2 hb⟩ (fun hHeld2 => ?_)
                clear hK hHeld hb hcs hvl
                have hHeld := hHeld2
                clear hHeld2
                refine take_call (i := 11) rfl (by kernel_rfl) (fun K2 hK => ?_)
                go_simp
                refine hK.out _ _ ⟨hHeld.1.below (nbel_alloc _ _), nrow_below hHeld.2 (nbel_alloc _ _)⟩ (fun hHeld2 => ?_)
                clear hK hHeld
                have hHeld := hHeld2
                clear hHeld2
                have RV := rowN_alloc w4 [.string ⟨(Pg.nLine p k).toArray⟩] 9
                have hsz := hHeld.1.old.size
                have HHD := Lib.hid hHeld
                have OWA := OWN.out.below (nbel_alloc w4 (.cells #[.string ⟨(Pg.nLine p k).toArray⟩] 9))
                refine take_call (i := 12) rfl (by kernel_rfl) (fun K2 hK => ?_)
                refine gstep_append_own rfl (.tmp 51) (.tmp 62) 42 rfl w.heap.size 9 i1 (.string ⟨#[]⟩) 1 16 Tryd.underlying42 hi1 hy0 hy1 hy2 rfl (by decide) u3 _ _ rfl OWA ⟨w4.heap.size, 0, none⟩ 1 1 [.string ⟨(Pg.nLine p k).toArray⟩] rfl rfl ?_ ?_ (by unfold maxLen; omega) (by omega) hsz ?_
                · intro q x hq
                  match q, hq with
                  | 0, hq =>
                    simp at hq
                    subst hq
                    exact RV.cell (i := 0) (by simp)
                · intro x hx
                  simp at hx
                  subst hx
                  rfl
                intro v5 W5 hown hgrow
                have S7 : Hid (TxS p la lk fa fk (some ⟨b, 0, none⟩) wk (Pg.lnK p p.bn p.on (k + 1)) v5 w W5) := by
                  show TxS _ _ _ _ _ _ _ _ _ _ _
                  rw [Pg.lnK_n]
                  exact TxS.grown ⟨HHD.out.1.box, OWA, HHD.out.1.old⟩ hown hgrow
                have hpr : W5.rowIs wr.heap.size 46 2 (rowN [.int .i64 A, .int .i64 B]) := HHD.out.2.of_block (hgrow.block _ HHD.out.2.lt (OWA.ne (by decide) HHD.out.2))
                refine hK.out _ _ ⟨⟨S7.out.box, S7.out.old⟩, hpr⟩ (fun hHeld2 => ?_)
                simp only [Act.put, List.setIfInBounds_toArray, List.set_cons_zero, List.set_cons_succ]
                clear hK hHeld HHD OWA OWN RV hown hgrow hpr
                have hHeld := hHeld2
                clear hHeld2
                refine take_do (i := 13) (v := v5) rfl (by kernel_rfl) (by kernel_rfl) (by kernel_rfl) (fun _ _ _ h => h) (by rfl) ?_ (by assumption) ?_
                · intro w hSw
                  skip
                  go_simp
                simp only [Act.put, List.setIfInBounds_toArray, List.set_cons_zero, List.set_cons_succ]
                refine wpAnyH_done (by kernel_rfl) ?_ _
                clear hHeld
                go_wp2_with fail
                go_roundw
                case rel => exact ⟨k + 1, by omega, by go_num, S7⟩
                case measure => simp [intOf]; omega
              · obtain rfl : k = p.nn := by omega
                have HJ := Lib.hid (Pg.lnK_all p)
                have hTL := Pg.textL_len HR.out
                have hkz := Pg.lnK_len p p.bn p.on p.nn
                obtain ⟨ls, hls⟩ : ∃ ls, ls = Pg.lnK p p.bn p.on p.nn := ⟨_, rfl⟩
                rw [← hls] at hkz hkl HJ
                have HO : Hid (StO w.heap.size u3 ls wr) := by show StO _ _ _ _; rw [hls]; exact hS.out.own
                have HB := Lib.hid hS.out.old
                clear hS hls hkz
                cases ls with
                | nil =>
                  have hv : u3 = .slice none 0 0 ∨ ∃ g c, u3 = .slice (some ⟨g, 0, none⟩) 0 c := by
                    rcases HO.out.2 with h2 | ⟨g, cap, cur, e1, _⟩
                    · exact Or.inl h2.1
                    · exact Or.inr ⟨g, cap, e1⟩
                  obtain ⟨av, cv, hv2⟩ : ∃ a c, u3 = .slice a 0 c := by
                    rcases hv with h | ⟨g, c, h⟩
                    · exact ⟨_, _, h⟩
                    · exact ⟨_, _, h⟩
                  subst hv2
                  clear hv
                  go_wp2_with fail
                  refine (Tryd.strings_Join_none av cv ⟨#[]⟩ _).mono ?_
                  rintro e w5 ⟨rfl, hw5⟩
                  rw [hw5]
                  clear hw5 w5
                  go_wp2_with fail
                  go_ret
                  refine ⟨?_, HB.out⟩
                  rw [HTX.out, ← HJ.out]
                  rfl
                | cons l0 lr =>
                  obtain ⟨g, c, hv, hg, hcap, hcs⟩ := HO.out.cells (by simp)
                  subst hv
                  obtain ⟨ls, hls⟩ : ∃ ls, ls = l0 :: lr := ⟨_, rfl⟩
                  rw [← hls] at hcap hcs hkl HJ ⊢
                  have HX : Hid (Lib.join (ls.map (·.data.toList)) (⟨#[]⟩ : ByteArray).data.toList = Pg.textL p) := by
                    show _ = _
                    rw [← HJ.out]
                    exact Pg.join_nosep _
                  clear hls HO
                  go_wp2_with fail
                  refine (Tryd.strings_Join g 0 c ls ⟨#[]⟩ _ hcs hg (by omega) hcap (by rw [HX.out]; omega)).mono ?_
                  rintro e w5 ⟨rfl, hb⟩
                  have HB2 : Hid (Below w.heap.size w w5) := HB.out.trans (hb.mono HB.out.size)
                  rw [HX.out]
                  clear hb
                  go_wp2_with fail
                  go_ret
                  exact ⟨by rw [HTX.out]; rfl, HB2.out⟩
  · rw [dB_ff k]
    have HTX := Lib.hid (Pg.text_no k)
    clear k
    go_wp2_with fail
    go_ret
    exact ⟨by rw [HTX.out]; rfl, S1.out.old⟩
end Go.Proofs.YtiaeobocenanlaaDoor
