/-
  The tree of mains: the model's walk.
-/
import Derived.Test.YtfgmalnkpgloiaaGreatDoorMnU1
namespace Go.Proofs.YtfgmalnkpgloiaaGreatDoor
open Go.RowKit Go.Deep

/-- A step of the model's tree, cell by cell. -/
def spC (e : Nat × Bool) : List Value := [.int .i64 (e.1 : Int), .bool e.2]
def spL (l : List (Nat × Bool)) : List Value := l.flatMap spC
theorem spL_app (l : List (Nat × Bool)) (e : Nat × Bool) : spL (l ++ [e]) = spL l ++ spC e := by simp [spL]
theorem spL_get (l : List (Nat × Bool)) : ∀ {k : Nat} {e : Nat × Bool}, l[k]? = some e → ∀ c, c < 2 → (spL l)[k * 2 + c]? = (spC e)[c]? := by
  induction l with
  | nil => intro k e h; simp at h
  | cons a l ih =>
    intro k e h c hc
    cases k with
    | zero =>
      simp at h
      subst h
      unfold spL
      rw [List.flatMap_cons, List.getElem?_append_left (by simp [spC]; omega)]
      simp
    | succ k =>
      simp at h
      have := ih h c hc
      unfold spL at this ⊢
      rw [List.flatMap_cons, List.getElem?_append_right (by simp [spC]; omega), ← this]
      congr 1
      simp [spC]; omega
theorem minfo_sp : (Tryz.prog.info? 100).map (fun i => (i.zero, i.size, i.bytes)) = some (some (.agg #[.int .i64 0, .bool false]), 2, 16) := by kernel_rfl
structure StS (m : Mn.Mains) (pa : Option Addr) (pk : Nat) (la : Option Addr) (lk : Nat) (wa : Option Addr) (wk : Nat) (t : Nat) (ov : Value) (w W : World) : Prop where
  s : MnS 27 m pa pk la lk wa wk w W
  b : MBl (w.heap.size + 1) (Mn.nn m) (Mn.iter m t).1 W
  o : W.ownsRow (w.heap.size + 2) 100 2 ov (Mn.iter m t).2.length (spL (Mn.iter m t).2)
  r : Mn.Real m t
theorem StS.below {m : Mn.Mains} {pa : Option Addr} {pk : Nat} {la : Option Addr} {lk : Nat} {wa : Option Addr} {wk t : Nat} {ov : Value} {w W W' : World} (h : StS m pa pk la lk wa wk t ov w W) (hb : Below W.heap.size W W') : StS m pa pk la lk wa wk t ov w W' := ⟨h.s.below hb, h.b.below hb, mown_below h.o hb, h.r⟩
def boolOf : Value → Bool
  | .bool b => b
  | _ => false
/-- What the model's tree tells. -/
def SpEnd (m : Mn.Mains) (B : Nat) (e : Ending) (W : World) : Prop := ∃ ov r, e = .returned (.tuple #[ov, .int .i64 r]) ∧ W.ownsRow B 100 2 ov (Mn.fin m).2.length (spL (Mn.fin m).2) ∧ Mn.OutAt (Mn.fin m).1 (Mn.nn m) r
set_option maxRecDepth 100000 in
set_option maxHeartbeats 16000000 in
theorem stree_any (m : Mn.Mains) (pa : Option Addr) (pk : Nat) (la : Option Addr) (lk : Nat) (wa : Option Addr) (wk : Nat) (w : World) (h : MnAt m pa la wa w) (hr : Mn.Right m) :
    Calls Tryz.prog 61 #[mnV m pa pk la lk wa wk] w fun e w' => SpEnd m w.heap.size e w' ∧ Below w.heap.size w w' := by
  obtain ⟨i1, hi1, hy0, hy1, hy2⟩ := info_parts minfo_sp
  have hmk := mmk_nodes m hr
  have hmc : (madeCells #[.bool false] (Mn.nn m))[0]? = some (.bool false) := by have h := hr.nn; have h0 : 0 < Mn.nn m := h.2.1; simp [madeCells, h0]
  have HR := Lib.hid hr
  obtain ⟨hnn, hn1, hn2, hwn⟩ := hr.nn
  have hpn := hr.pn
  have HN := Lib.hid hnn
  have hn0 : (0 : Int) < (Mn.nn m : Int) := by omega
  obtain ⟨W0, hW0⟩ : ∃ W0, W0 = ((w.alloc (.cells #[.int .i64 m.nodes, .int .i64 m.head, .slice pa m.pn pk, .slice la m.ln lk, .slice wa m.wn wk] 27)).alloc (.cells ((madeCells #[.bool false] (Mn.nn m)).setIfInBounds 0 (.bool true)) 4)).alloc (.cells #[] 100) := ⟨_, rfl⟩
  have HW0 := Lib.hid hW0
  have ST : Hid (StS m pa pk la lk wa wk 0 (.slice (some ⟨w.heap.size + 2, 0, none⟩) 0 0) w W0) := by
    show StS _ _ _ _ _ _ _ _ _ _ _
    rw [hW0]
    refine ⟨((MnS.new 27 (pk := pk) (lk := lk) (wk := wk) h).alloc _).alloc _, ?_, ?_, fun k hk => absurd hk (Nat.not_lt_zero _)⟩
    · have := mbl_new1 (w.alloc (.cells #[.int .i64 m.nodes, .int .i64 m.head, .slice pa m.pn pk, .slice la m.ln lk, .slice wa m.wn wk] 27)) (Mn.nn m) hn1
      rw [World.size_alloc] at this
      exact this.below (nbel_alloc _ _)
    · have := World.ownsRow_made (e := 100) (size := 2) (base := w.heap.size + 2) ((w.alloc (.cells #[.int .i64 m.nodes, .int .i64 m.head, .slice pa m.pn pk, .slice la m.ln lk, .slice wa m.wn wk] 27)).alloc (.cells ((madeCells #[.bool false] (Mn.nn m)).setIfInBounds 0 (.bool true)) 4)) #[] 0 (by simp) (Nat.zero_le _) rfl
      simpa [Mn.iter, spL] using this
  have HAT0 := Lib.hid h
  clear h hr hnn hW0 hwn
  go_enter Tryz.func61, Tryz.ntmps61
  go_wp2_with fail
  rw [← HW0.out]
  clear hmk hmc
  go_loopw [5, 6] (fun ov bv wr => ∃ (t : Nat) (b : Bool), bv = .bool b ∧ Hid (StS m pa pk la lk wa wk t ov w wr) ∧ Hid (b = false → Mn.nextP m (Mn.iter m t).1 = none)) (fun ov bv _ => (12 - lenV ov) * 2 + (if boolOf bv then 1 else 0))
  case atStart => exact ⟨0, true, rfl, ST, fun h => by cases h⟩
  case round =>
    obtain ⟨t, b, rfl, hS, hE⟩ := hrel
    clear ST
    obtain ⟨av, cv, rfl⟩ := mown_shape hS.out.o
    cases b with
    | false =>
      have HFE := Lib.hid (Mn.fin_eq HR.out hS.out.r (hE.out rfl))
      clear hE
      go_wp2_with fail
      go_loopw [9] (fun kv wr => ∃ (k : Nat), k ≤ Mn.nn m ∧ kv = .int .i64 k ∧ Hid (StS m pa pk la lk wa wk t (.slice av (Mn.iter m t).2.length cv) w wr) ∧ Hid (∀ j, j < k → (Mn.iter m t).1 j = true)) (fun kv _ => Mn.nn m - (intOf kv).toNat)
      case atStart => exact ⟨0, Nat.zero_le _, rfl, hS, fun j hj => absurd hj (Nat.not_lt_zero _)⟩
      case round =>
        obtain ⟨k, hk, rfl, hS2, hP⟩ := hrel
        clear hS
        obtain ⟨⟨r0, r1, r2, r3, r4⟩, _⟩ := rowN5 hS2.out.s.row
        rw [HN.out] at r0
        by_cases hlt : k < Mn.nn m
        · have hltz : (k : Int) < (Mn.nn m : Int) := by omega
          have c0 := hS2.out.b.cell hlt
          cases hs : (Mn.iter m t).1 k with
          | true =>
            rw [hs] at c0
            have HS := Lib.hid hs
            clear hs
            go_wp2_with fail
            go_roundw
            case rel =>
              refine ⟨k + 1, by omega, by go_num, hS2, fun j hj => ?_⟩
              by_cases ej : j = k
              · subst ej; exact HS.out
              · exact hP.out j (by omega)
            case measure => simp [intOf]; omega
          | false =>
            rw [hs] at c0
            have HS := Lib.hid hs
            clear hs
            go_wp2_with fail
            go_ret2
            have s := hS2.out
            have hfe := HFE.out
            exact ⟨⟨_, _, rfl, by rw [hfe]; exact mown_low s.o (by omega), by rw [hfe]; exact Or.inl ⟨k, hlt, rfl, HS.out, hP.out⟩⟩, s.s.old⟩
        · obtain rfl : k = Mn.nn m := by omega
          go_wp2_with fail
          go_ret2
          have s := hS2.out
          have hfe := HFE.out
          exact ⟨⟨_, _, rfl, by rw [hfe]; exact mown_low s.o (by omega), by rw [hfe]; exact Or.inr ⟨rfl, hP.out⟩⟩, s.s.old⟩
    | true =>
      clear hE
      go_wp2_with fail
      go_loopw [5, 6, 7] (fun ov bv iv wr => ∃ (t' : Nat) (b : Bool) (i : Nat), i ≤ m.pn ∧ bv = .bool b ∧ iv = .int .i64 i ∧ Hid (StS m pa pk la lk wa wk t' ov w wr) ∧ Hid ((b = false ∧ t' = t ∧ ∀ j, j < i → Mn.takes m (Mn.iter m t).1 j = false) ∨ (b = true ∧ t' = t + 1))) (fun _ _ iv _ => m.pn - (intOf iv).toNat)
      case atStart => exact ⟨t, false, 0, Nat.zero_le _, rfl, rfl, hS, Or.inl ⟨rfl, rfl, fun j hj => absurd hj (Nat.not_lt_zero _)⟩⟩
      case round =>
        obtain ⟨t', b, i, hi, rfl, rfl, hS2, hC⟩ := hrel
        have HLEN : Hid ((Mn.iter m t).2.length = t ∧ t < 12) := ⟨(Mn.it_ok HR.out t hS.out.r).len, by have := Mn.real_lt HR.out hS.out.r; omega⟩
        clear hS
        obtain ⟨av2, cv2, rfl⟩ := mown_shape hS2.out.o
        obtain ⟨⟨r0, r1, r2, r3, r4⟩, _⟩ := rowN5 hS2.out.s.row
        cases b with
        | true =>
          have ht' : t' = t + 1 := by
            rcases hC.out with h | h
            · cases h.1
            · exact h.2
          subst ht'
          have HL2 : Hid ((Mn.iter m (t + 1)).2.length = t + 1) := (Mn.it_ok HR.out _ hS2.out.r).len
          clear hC
          by_cases hlt : i < m.pn
          · have hltz : (i : Int) < (m.pn : Int) := by omega
            go_wp2_with fail
            go_roundw
            case rel => exact ⟨t + 1, true, rfl, hS2, fun h => by cases h⟩
            case measure =>
              have h1 := HLEN.out
              have h2 := HL2.out
              simp [lenV, boolOf, h1.1, h2]; omega
          · have hltz : ¬ (i : Int) < (m.pn : Int) := by omega
            go_wp2_with fail
            go_roundw
            case rel => exact ⟨t + 1, true, rfl, hS2, fun h => by cases h⟩
            case measure =>
              have h1 := HLEN.out
              have h2 := HL2.out
              simp [lenV, boolOf, h1.1, h2]; omega
        | false =>
          have hCC : t' = t ∧ ∀ j, j < i → Mn.takes m (Mn.iter m t).1 j = false := by
            rcases hC.out with h | h
            · exact h.2
            · cases h.1
          obtain ⟨et, hP'⟩ := hCC
          subst et
          have hP := Lib.hid hP'
          clear hP' hC
          by_cases hlt : i < m.pn
          · have hltz : (i : Int) < (m.pn : Int) := by omega
            obtain ⟨b, e, c0, c1, c2, c3, c4⟩ := hS2.out.s.at_.p.at5 hlt
            obtain ⟨ef, hf⟩ := HR.out.fN hlt
            obtain ⟨et, ht⟩ := HR.out.tN hlt
            rw [ef] at c1
            rw [et] at c2
            subst e
            have hfz : (Mn.fN m i : Int) < (Mn.nn m : Int) := by omega
            have htz : (Mn.tN m i : Int) < (Mn.nn m : Int) := by omega
            have y1 := hS2.out.b.cell hf
            have y2 := hS2.out.b.cell ht
            have zb : b < wr.heap.size := World.block_lt_of_cell? _ _ c0
            have zw : w.heap.size + 1 < wr.heap.size := hS2.out.b.lt
            have z1 := hS2.out.b.frozen (Mn.fN m i)
            have z2 := hS2.out.b.frozen (Mn.tN m i)
            clear ef et
            obtain ⟨S, hSS⟩ : ∃ S, S = (Mn.iter m t').1 := ⟨_, rfl⟩
            rw [← hSS] at y1 y2 hP
            have HSS := Lib.hid hSS
            clear hSS
            have skip : Hid (Mn.takes m S i = false → ∀ j, j < i + 1 → Mn.takes m (Mn.iter m t').1 j = false) := fun h j hj => by
              rw [← HSS.out]
              by_cases ej : j = i
              · subst ej; exact h
              · exact hP.out j (by omega)
            by_cases k5 : m.P (i * 5) = 5
            · have k5' : (m.P (i * 5) == 5) = true := by simp [k5]
              have SK := Lib.hid (skip.out (by simp [Mn.takes, k5]))
              clear k5
              go_wp2_with fail
              go_quiet (fail)
              go_wp2_with fail
              go_roundw
              case rel => exact ⟨t', false, i + 1, by omega, rfl, by go_num, (hS2.out.below (nbel_alloc _ _)).below (ndrewN (Below.refl _ _) _), Or.inl ⟨rfl, rfl, SK.out⟩⟩
              case measure => simp [intOf]; omega
            have k5' : (m.P (i * 5) == 5) = false := by simp [k5]
            have K5 := Lib.hid k5
            clear k5
            cases hq : (S (Mn.fN m i) == S (Mn.tN m i)) with
            | true =>
              have SK := Lib.hid (skip.out (takes_eq hq))
              go_wp2_with fail
              go_quiet (fail)
              go_wp2_with fail
              go_roundw
              case rel => exact ⟨t', false, i + 1, by omega, rfl, by go_num, (hS2.out.below (nbel_alloc _ _)).below (ndrewN (Below.refl _ _) _), Or.inl ⟨rfl, rfl, SK.out⟩⟩
              case measure => simp [intOf]; omega
            | false =>
              have HT := Lib.hid (takes_leads hq)
              obtain ⟨fw, hfw⟩ : ∃ fw, fw = S (Mn.fN m i) := ⟨_, rfl⟩
              have htw : S (Mn.tN m i) = !fw := by
                rw [← hfw] at hq
                cases fw <;> cases h : S (Mn.tN m i) <;> simp_all
              rw [← hfw] at y1 hq
              rw [htw] at y2 hq
              have HFW := Lib.hid hfw
              clear hfw htw
              cases fw with
              | true =>
                have HTK : Hid (Mn.takes m S i = true) := by show _ = _; rw [HT.out, ← HFW.out]; simp [leadsB, K5.out]
                have HNX : Hid (Mn.nextP m (Mn.iter m t').1 = some i) := by
                  have h1 := Mn.nextP_some hlt HTK.out hP.out
                  rw [HSS.out] at h1; exact h1
                have hlen : (Mn.iter m t').2.length ≤ 12 := by have := HLEN.out; omega
                have hft : ¬ Mn.fN m i = Mn.tN m i := HR.out.ftne hlt
                have hft' : ¬ Mn.tN m i = Mn.fN m i := fun e => hft e.symm
                go_wp2_with fail
                go_quiet (fail)
                go_wp2_with (at_builtin; refine wpList_append_lies _ rfl _ _ 96 rfl (w.heap.size + 2) 100 i1 (.agg #[.int .i64 0, .bool false]) 2 16 Tryz.underlying96 hi1 hy0 hy1 hy2 rfl (by decide) _ _ _ rfl ((mown_below hS2.out.o (ndrewN (nbel_alloc _ _) _)).alloc _) ⟨wr.heap.size + 1, 0, none⟩ 1 1 [.int .i64 (i : Int), .bool true] rfl rfl ?a1 ?a2 ?a3 ?a4 ?a5 ?a6 (wr.heap.size + 2) ?a7 ?_)
                try (case a1 => exact lit_cells _ _ (by simp) _ _)
                try (case a2 => (intro u hu; simp at hu; rcases hu with rfl | rfl <;> rfl))
                try (case a3 => omega)
                try (case a4 => (unfold maxLen; omega))
                try (case a5 => omega)
                try (case a6 => first | omega | (simp; omega))
                try (case a7 => simp)
                intro g cap W3 hown hgrow hat hlt3
                have HO3 : Hid (W3.ownsRow (w.heap.size + 2) 100 2 (.slice (some ⟨g, 0, none⟩) ((Mn.iter m t').2.length + 1) cap) (Mn.iter m (t' + 1)).2.length (spL (Mn.iter m (t' + 1)).2)) := Lib.hid (by
                  rw [Mn.iter_succ HNX.out]
                  unfold Mn.stepAt
                  simp only
                  rw [spL_app, ← HSS.out, ← HFW.out]
                  simpa [spC] using hown)
                have HB2 : Hid (Below (w.heap.size + 2) wr W3) := ((ndrewN ((Below.refl _ _).alloc (by omega) _) _).alloc (by simp; omega) _).grown hgrow (by simp; omega) (fun k hk => (hS2.out.o.lt k hk).1)
                have RX : Hid (W3.rowIs wr.heap.size 36 5 (rowN [.int .i64 (m.P (i * 5)), .int .i64 (Mn.fN m i : Int), .int .i64 (Mn.tN m i : Int), .int .i64 (m.P (i * 5 + 3)), .int .i64 (m.P (i * 5 + 4))])) := (nrow_below (nrow_below (rowN_alloc wr [.int .i64 (m.P (i * 5)), .int .i64 (Mn.fN m i : Int), .int .i64 (Mn.tN m i : Int), .int .i64 (m.P (i * 5 + 3)), .int .i64 (m.P (i * 5 + 4))] 36) (ndrewN (Below.refl _ _) _)) (nbel_alloc _ _)).of_block (hgrow.block _ (by simp; omega) (fun e => by have := (hS2.out.o.lt _ e.symm).2; omega))
                obtain ⟨⟨x0, x1, x2, x3, x4⟩, _⟩ := rowN5 RX.out
                have B3 : Hid (MBl (w.heap.size + 1) (Mn.nn m) S W3) := by
                  have := hS2.out.b.block (HB2.out.block _ (by omega))
                  rw [← HSS.out] at this; exact this
                have q1 := B3.out.cell hf
                have q2 := B3.out.cell ht
                have qz1 := B3.out.frozen (Mn.fN m i)
                have qz2 := B3.out.frozen (Mn.tN m i)
                have lw3 : w.heap.size + 1 < W3.heap.size := B3.out.lt
                have lx3 : wr.heap.size < W3.heap.size := RX.out.lt
                have S4 : Hid (StS m (some ⟨b, 0, none⟩) pk la lk wa wk (t' + 1) (.slice (some ⟨g, 0, none⟩) ((Mn.iter m t').2.length + 1) cap) w ((W3.setCell ⟨w.heap.size + 1, Mn.fN m i, none⟩ (.bool true)).setCell ⟨w.heap.size + 1, Mn.tN m i, none⟩ (.bool true))) := by
                  have hb := HB2.out
                  have ho := hS2.out.s.old.trans (hb.mono (by omega))
                  have ho2 := (ho.setCell (p := ⟨w.heap.size + 1, Mn.fN m i, none⟩) (by show w.heap.size ≤ w.heap.size + 1; omega) (.bool true)).setCell (p := ⟨w.heap.size + 1, Mn.tN m i, none⟩) (by show w.heap.size ≤ w.heap.size + 1; omega) (.bool true)
                  refine ⟨⟨nrow_set (nrow_set (hS2.out.s.row.of_block (hb.block _ (by omega))) (p := ⟨w.heap.size + 1, Mn.fN m i, none⟩) (by show w.heap.size ≠ w.heap.size + 1; omega) _) (p := ⟨w.heap.size + 1, Mn.tN m i, none⟩) (by show w.heap.size ≠ w.heap.size + 1; omega) _, HAT0.out.below ho2, ho2⟩, ?_, ?_, Mn.real_succ hS2.out.r HNX.out⟩
                  · have h1 := (B3.out.set (Mn.fN m i) true).set (Mn.tN m i) true
                    rw [Mn.iter_succ HNX.out]
                    unfold Mn.stepAt
                    simp only
                    rw [← HSS.out]; exact h1
                  · exact mown_block (mown_block HO3.out (fun k hk => Below.heap_setCell _ _ _ _ (by show k ≠ w.heap.size + 1; have := (HO3.out.lt k hk).1; omega))) (fun k hk => Below.heap_setCell _ _ _ _ (by show k ≠ w.heap.size + 1; have := (HO3.out.lt k hk).1; omega))
                clear hown hgrow hat hlt3 HO3 HB2 RX B3 y1 y2 z1 z2 c0 c1 c2 c3 c4 hS2
                go_wp2_with fail
                go_roundw
                case rel => exact ⟨t' + 1, true, i + 1, by omega, rfl, by go_num, S4, Or.inr ⟨rfl, rfl⟩⟩
                case measure => simp [intOf]; omega
              | false =>
                by_cases k2 : m.P (i * 5) = 2
                · have k2' : (m.P (i * 5) == 2) = true := by simp [k2]
                  have K2 := Lib.hid k2
                  clear k2
                  have SK := Lib.hid (skip.out (by rw [HT.out, ← HFW.out]; simp [leadsB, Mn.oneWay, K2.out]))
                  go_wp2_with fail
                  go_quiet (fail)
                  go_wp2_with fail
                  go_roundw
                  case rel => exact ⟨t', false, i + 1, by omega, rfl, by go_num, (hS2.out.below (nbel_alloc _ _)).below (ndrewN (Below.refl _ _) _), Or.inl ⟨rfl, rfl, SK.out⟩⟩
                  case measure => simp [intOf]; omega
                have k2' : (m.P (i * 5) == 2) = false := by simp [k2]
                have K2 := Lib.hid k2
                clear k2
                by_cases k3 : m.P (i * 5) = 3
                · have k3' : (m.P (i * 5) == 3) = true := by simp [k3]
                  have K3 := Lib.hid k3
                  clear k3
                  have SK := Lib.hid (skip.out (by rw [HT.out, ← HFW.out]; simp [leadsB, Mn.oneWay, K3.out]))
                  go_wp2_with fail
                  go_quiet (fail)
                  go_wp2_with fail
                  go_roundw
                  case rel => exact ⟨t', false, i + 1, by omega, rfl, by go_num, (hS2.out.below (nbel_alloc _ _)).below (ndrewN (Below.refl _ _) _), Or.inl ⟨rfl, rfl, SK.out⟩⟩
                  case measure => simp [intOf]; omega
                have k3' : (m.P (i * 5) == 3) = false := by simp [k3]
                have K3 := Lib.hid k3
                clear k3
                have HTK : Hid (Mn.takes m S i = true) := by show _ = _; rw [HT.out, ← HFW.out]; simp [leadsB, K5.out, Mn.oneWay, K2.out, K3.out]
                have HNX : Hid (Mn.nextP m (Mn.iter m t').1 = some i) := by
                  have h1 := Mn.nextP_some hlt HTK.out hP.out
                  rw [HSS.out] at h1; exact h1
                have hlen : (Mn.iter m t').2.length ≤ 12 := by have := HLEN.out; omega
                have hft : ¬ Mn.fN m i = Mn.tN m i := HR.out.ftne hlt
                have hft' : ¬ Mn.tN m i = Mn.fN m i := fun e => hft e.symm
                go_wp2_with fail
                go_quiet (fail)
                go_wp2_with (at_builtin; refine wpList_append_lies _ rfl _ _ 96 rfl (w.heap.size + 2) 100 i1 (.agg #[.int .i64 0, .bool false]) 2 16 Tryz.underlying96 hi1 hy0 hy1 hy2 rfl (by decide) _ _ _ rfl ((mown_below hS2.out.o (ndrewN (nbel_alloc _ _) _)).alloc _) ⟨wr.heap.size + 1, 0, none⟩ 1 1 [.int .i64 (i : Int), .bool false] rfl rfl ?b1 ?b2 ?b3 ?b4 ?b5 ?b6 (wr.heap.size + 2) ?b7 ?_)
                try (case b1 => exact lit_cells _ _ (by simp) _ _)
                try (case b2 => (intro u hu; simp at hu; rcases hu with rfl | rfl <;> rfl))
                try (case b3 => omega)
                try (case b4 => (unfold maxLen; omega))
                try (case b5 => omega)
                try (case b6 => first | omega | (simp; omega))
                try (case b7 => simp)
                intro g cap W3 hown hgrow hat hlt3
                have HO3 : Hid (W3.ownsRow (w.heap.size + 2) 100 2 (.slice (some ⟨g, 0, none⟩) ((Mn.iter m t').2.length + 1) cap) (Mn.iter m (t' + 1)).2.length (spL (Mn.iter m (t' + 1)).2)) := Lib.hid (by
                  rw [Mn.iter_succ HNX.out]
                  unfold Mn.stepAt
                  simp only
                  rw [spL_app, ← HSS.out, ← HFW.out]
                  simpa [spC] using hown)
                have HB2 : Hid (Below (w.heap.size + 2) wr W3) := ((ndrewN ((Below.refl _ _).alloc (by omega) _) _).alloc (by simp; omega) _).grown hgrow (by simp; omega) (fun k hk => (hS2.out.o.lt k hk).1)
                have RX : Hid (W3.rowIs wr.heap.size 36 5 (rowN [.int .i64 (m.P (i * 5)), .int .i64 (Mn.fN m i : Int), .int .i64 (Mn.tN m i : Int), .int .i64 (m.P (i * 5 + 3)), .int .i64 (m.P (i * 5 + 4))])) := (nrow_below (nrow_below (rowN_alloc wr [.int .i64 (m.P (i * 5)), .int .i64 (Mn.fN m i : Int), .int .i64 (Mn.tN m i : Int), .int .i64 (m.P (i * 5 + 3)), .int .i64 (m.P (i * 5 + 4))] 36) (ndrewN (Below.refl _ _) _)) (nbel_alloc _ _)).of_block (hgrow.block _ (by simp; omega) (fun e => by have := (hS2.out.o.lt _ e.symm).2; omega))
                obtain ⟨⟨x0, x1, x2, x3, x4⟩, _⟩ := rowN5 RX.out
                have B3 : Hid (MBl (w.heap.size + 1) (Mn.nn m) S W3) := by
                  have := hS2.out.b.block (HB2.out.block _ (by omega))
                  rw [← HSS.out] at this; exact this
                have q1 := B3.out.cell hf
                have q2 := B3.out.cell ht
                have qz1 := B3.out.frozen (Mn.fN m i)
                have qz2 := B3.out.frozen (Mn.tN m i)
                have lw3 : w.heap.size + 1 < W3.heap.size := B3.out.lt
                have lx3 : wr.heap.size < W3.heap.size := RX.out.lt
                have S4 : Hid (StS m (some ⟨b, 0, none⟩) pk la lk wa wk (t' + 1) (.slice (some ⟨g, 0, none⟩) ((Mn.iter m t').2.length + 1) cap) w ((W3.setCell ⟨w.heap.size + 1, Mn.fN m i, none⟩ (.bool true)).setCell ⟨w.heap.size + 1, Mn.tN m i, none⟩ (.bool true))) := by
                  have hb := HB2.out
                  have ho := hS2.out.s.old.trans (hb.mono (by omega))
                  have ho2 := (ho.setCell (p := ⟨w.heap.size + 1, Mn.fN m i, none⟩) (by show w.heap.size ≤ w.heap.size + 1; omega) (.bool true)).setCell (p := ⟨w.heap.size + 1, Mn.tN m i, none⟩) (by show w.heap.size ≤ w.heap.size + 1; omega) (.bool true)
                  refine ⟨⟨nrow_set (nrow_set (hS2.out.s.row.of_block (hb.block _ (by omega))) (p := ⟨w.heap.size + 1, Mn.fN m i, none⟩) (by show w.heap.size ≠ w.heap.size + 1; omega) _) (p := ⟨w.heap.size + 1, Mn.tN m i, none⟩) (by show w.heap.size ≠ w.heap.size + 1; omega) _, HAT0.out.below ho2, ho2⟩, ?_, ?_, Mn.real_succ hS2.out.r HNX.out⟩
                  · have h1 := (B3.out.set (Mn.fN m i) true).set (Mn.tN m i) true
                    rw [Mn.iter_succ HNX.out]
                    unfold Mn.stepAt
                    simp only
                    rw [← HSS.out]; exact h1
                  · exact mown_block (mown_block HO3.out (fun k hk => Below.heap_setCell _ _ _ _ (by show k ≠ w.heap.size + 1; have := (HO3.out.lt k hk).1; omega))) (fun k hk => Below.heap_setCell _ _ _ _ (by show k ≠ w.heap.size + 1; have := (HO3.out.lt k hk).1; omega))
                clear hown hgrow hat hlt3 HO3 HB2 RX B3 y1 y2 z1 z2 c0 c1 c2 c3 c4 hS2
                go_wp2_with fail
                go_roundw
                case rel => exact ⟨t' + 1, true, i + 1, by omega, rfl, by go_num, S4, Or.inr ⟨rfl, rfl⟩⟩
                case measure => simp [intOf]; omega
          · have hltz : ¬ (i : Int) < (m.pn : Int) := by omega
            obtain rfl : i = m.pn := by omega
            have HNX := Lib.hid (Mn.nextP_none hP.out)
            go_wp2_with fail
            go_roundw
            case rel => exact ⟨t', false, rfl, hS2, fun _ => HNX.out⟩
            case measure =>
              have h1 := HLEN.out
              simp [lenV, boolOf]
end Go.Proofs.YtfgmalnkpgloiaaGreatDoor
