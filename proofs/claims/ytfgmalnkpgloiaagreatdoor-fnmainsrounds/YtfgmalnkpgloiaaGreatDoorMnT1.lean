/-
  The tree of mains: the program's walk.
-/
import Derived.Test.YtfgmalnkpgloiaaGreatDoorMnK
import Derived.Deep.AppendLies
namespace Go.Proofs.YtfgmalnkpgloiaaGreatDoor
open Go.RowKit Go.Deep

/-- A branch of the tree, cell by cell. -/
def brC (m : Mn.Mains) (e : Nat × Bool) : List Value := [.int .i64 (e.1 : Int), .int .i64 (if e.2 then 1 else -1), .int .i64 (if e.2 then (Mn.fN m e.1 : Int) else (Mn.tN m e.1 : Int)), .int .i64 (if e.2 then (Mn.tN m e.1 : Int) else (Mn.fN m e.1 : Int))]
def brL (m : Mn.Mains) (l : List (Nat × Bool)) : List Value := l.flatMap (brC m)
theorem brL_len (m : Mn.Mains) (l : List (Nat × Bool)) : (brL m l).length = l.length * 4 := by
  unfold brL
  induction l with
  | nil => rfl
  | cons e l ih => rw [List.flatMap_cons, List.length_append, ih]; simp [brC]; omega
theorem brL_app (m : Mn.Mains) (l : List (Nat × Bool)) (e : Nat × Bool) : brL m (l ++ [e]) = brL m l ++ brC m e := by simp [brL]
theorem brL_get (m : Mn.Mains) (l : List (Nat × Bool)) : ∀ {k : Nat} {e : Nat × Bool}, l[k]? = some e → ∀ c, c < 4 → (brL m l)[k * 4 + c]? = (brC m e)[c]? := by
  induction l with
  | nil => intro k e h; simp at h
  | cons a l ih =>
    intro k e h c hc
    cases k with
    | zero =>
      simp at h
      subst h
      unfold brL
      rw [List.flatMap_cons, List.getElem?_append_left (by simp [brC]; omega)]
      simp
    | succ k =>
      simp at h
      have := ih h c hc
      unfold brL at this ⊢
      rw [List.flatMap_cons, List.getElem?_append_right (by simp [brC]; omega), ← this]
      congr 1
      simp [brC]; omega
set_option maxHeartbeats 400000 in
theorem ends_f (k f t d q : Int) (w : World) : Calls Tryz.prog 107 #[.agg #[.int .i64 k, .int .i64 f, .int .i64 t, .int .i64 d, .int .i64 q], .int .i64 1] w fun e w' => e = .returned (.tuple #[.int .i64 f, .int .i64 t]) ∧ Below w.heap.size w w' := by
  have HB := Lib.hid (nbel_alloc w (.cells #[.int .i64 k, .int .i64 f, .int .i64 t, .int .i64 d, .int .i64 q] 36))
  go_enter Tryz.func107, Tryz.ntmps107
  go_wp2_with fail
  go_quiet (fail)
  go_wp2_with fail
  go_ret2
  exact ⟨rfl, ndrewN HB.out _⟩
set_option maxHeartbeats 400000 in
theorem ends_b (k f t d q : Int) (w : World) : Calls Tryz.prog 107 #[.agg #[.int .i64 k, .int .i64 f, .int .i64 t, .int .i64 d, .int .i64 q], .int .i64 (-1)] w fun e w' => e = .returned (.tuple #[.int .i64 t, .int .i64 f]) ∧ Below w.heap.size w w' := by
  have HB := Lib.hid (nbel_alloc w (.cells #[.int .i64 k, .int .i64 f, .int .i64 t, .int .i64 d, .int .i64 q] 36))
  go_enter Tryz.func107, Tryz.ntmps107
  go_wp2_with fail
  go_quiet (fail)
  go_wp2_with fail
  go_ret2
  exact ⟨rfl, ndrewN HB.out _⟩
/-- The branch that is found, as a value. -/
abbrev brV (m : Mn.Mains) (i : Nat) (fwd : Bool) : Value := .agg #[.int .i64 (i : Int), .int .i64 (if fwd then 1 else -1), .int .i64 (if fwd then (Mn.fN m i : Int) else (Mn.tN m i : Int)), .int .i64 (if fwd then (Mn.tN m i : Int) else (Mn.fN m i : Int))]
abbrev brZ : Value := .agg #[.int .i64 0, .int .i64 0, .int .i64 0, .int .i64 0]
/-- What the search for a branch tells. -/
def NbEnd (m : Mn.Mains) (s : Nat → Bool) (e : Ending) : Prop := (∃ i : Nat, i < m.pn ∧ Mn.nextP m s = some i ∧ e = .returned (.tuple #[brV m i (s (Mn.fN m i)), .bool true])) ∨ (Mn.nextP m s = none ∧ e = .returned (.tuple #[brZ, .bool false]))
theorem takes_eq {m : Mn.Mains} {s : Nat → Bool} {i : Nat} (h : (s (Mn.fN m i) == s (Mn.tN m i)) = true) : Mn.takes m s i = false := by
  have h' : s (Mn.fN m i) = s (Mn.tN m i) := by simpa using h
  simp [Mn.takes, h']
theorem takes_leads {m : Mn.Mains} {s : Nat → Bool} {i : Nat} (h : (s (Mn.fN m i) == s (Mn.tN m i)) = false) : Mn.takes m s i = leadsB m i (s (Mn.fN m i)) := by
  have h' : (s (Mn.fN m i) != s (Mn.tN m i)) = true := by simpa using h
  unfold Mn.takes leadsB
  rw [h']
  simp
structure NbS (m : Mn.Mains) (pa : Option Addr) (gk gi : Nat) (s : Nat → Bool) (w W : World) : Prop where
  row : W.rowIs w.heap.size 117 4 (rowN [.int .i64 0, .int .i64 0, .int .i64 0, .int .i64 0])
  p : IsAt pa (m.pn * 5) m.P W
  k : KdBlk gk m W
  b : MBl gi (Mn.nn m) s W
  old : Below w.heap.size w W
theorem NbS.below {m : Mn.Mains} {pa : Option Addr} {gk gi : Nat} {s : Nat → Bool} {w W W' : World} (h : NbS m pa gk gi s w W) (hb : Below W.heap.size W W') : NbS m pa gk gi s w W' := ⟨nrow_below h.row hb, h.p.below hb, h.k.below hb, h.b.below hb, h.old.trans (hb.mono h.old.size)⟩
set_option maxRecDepth 100000 in
set_option maxHeartbeats 4000000 in
theorem nextBranch_any (m : Mn.Mains) (pa : Option Addr) (pk gk gi : Nat) (s : Nat → Bool) (w : World) (hp : IsAt pa (m.pn * 5) m.P w) (hk : KdBlk gk m w) (hb : MBl gi (Mn.nn m) s w) (hr : Mn.Right m) :
    Calls Tryz.prog 94 #[.slice pa m.pn pk, .slice (some ⟨gk, 0, none⟩) m.pn m.pn, .slice (some ⟨gi, 0, none⟩) (Mn.nn m) (Mn.nn m)] w fun e w' => NbEnd m s e ∧ Below w.heap.size w w' := by
  have ST : Hid (NbS m pa gk gi s w (w.alloc (.cells #[.int .i64 0, .int .i64 0, .int .i64 0, .int .i64 0] 117))) := ⟨rowN_alloc w [.int .i64 0, .int .i64 0, .int .i64 0, .int .i64 0] _, hp.below (nbel_alloc _ _), hk.below (nbel_alloc _ _), hb.below (nbel_alloc _ _), nbel_alloc _ _⟩
  have hpn := hr.pn
  have HR := Lib.hid hr
  clear hp hk hb hr
  go_enter Tryz.func94, Tryz.ntmps94
  go_wp2_with fail
  go_loopw [15] (fun iv wr => ∃ (i : Nat), i ≤ m.pn ∧ iv = .int .i64 i ∧ Hid (NbS m pa gk gi s w wr) ∧ Hid (∀ j, j < i → Mn.takes m s j = false)) (fun iv _ => m.pn - (intOf iv).toNat)
  case atStart => exact ⟨0, Nat.zero_le _, rfl, ST, fun j hj => absurd hj (Nat.not_lt_zero _)⟩
  case round =>
    obtain ⟨i, hi, rfl, hS, hP⟩ := hrel
    clear ST
    by_cases hlt : i < m.pn
    · have hltz : (i : Int) < (m.pn : Int) := by omega
      obtain ⟨b, e, c0, c1, c2, c3, c4⟩ := hS.out.p.at5 hlt
      obtain ⟨ef, hf⟩ := HR.out.fN hlt
      obtain ⟨et, ht⟩ := HR.out.tN hlt
      subst e
      obtain ⟨Wb, hWb⟩ : ∃ Wb, Wb = wr.alloc (.cells #[.int .i64 (m.P (i * 5)), .int .i64 (m.P (i * 5 + 1)), .int .i64 (m.P (i * 5 + 2)), .int .i64 (m.P (i * 5 + 3)), .int .i64 (m.P (i * 5 + 4))] 36) := ⟨_, rfl⟩
      have HWb := Lib.hid hWb
      have S1 : Hid (NbS m (some ⟨b, 0, none⟩) gk gi s w Wb) := by show NbS _ _ _ _ _ _ _; rw [hWb]; exact hS.out.below (nbel_alloc _ _)
      have R1 : Hid (Wb.rowIs wr.heap.size 36 5 (rowN [.int .i64 (m.P (i * 5)), .int .i64 (m.P (i * 5 + 1)), .int .i64 (m.P (i * 5 + 2)), .int .i64 (m.P (i * 5 + 3)), .int .i64 (m.P (i * 5 + 4))])) := by show World.rowIs _ _ _ _ _; rw [hWb]; exact rowN_alloc wr _ _
      have hfz : (Mn.fN m i : Int) < (Mn.nn m : Int) := by omega
      have htz : (Mn.tN m i : Int) < (Mn.nn m : Int) := by omega
      have HEF := Lib.hid ef
      have HET := Lib.hid et
      have zb : b < wr.heap.size := World.block_lt_of_cell? _ _ c0
      clear hWb ef et
      go_wp2_with fail
      try rw [← HWb.out]
      obtain ⟨⟨x0, x1, x2, x3, x4⟩, _⟩ := rowN5 R1.out
      rw [HEF.out] at x1
      rw [HET.out] at x2
      have y1 := S1.out.b.cell hf
      have y2 := S1.out.b.cell ht
      clear c0 c1 c2 c3 c4 zb hS
      cases hq : (s (Mn.fN m i) == s (Mn.tN m i)) with
      | true =>
        have HT := Lib.hid (takes_eq hq)
        go_wp2_with fail
        go_quiet (fail)
        go_wp2_with fail
        go_roundw
        case rel =>
          refine ⟨i + 1, by omega, by go_num, S1.out.below (ndrewN (Below.refl _ _) _), fun j hj => ?_⟩
          by_cases ej : j = i
          · subst ej; exact HT.out
          · exact hP.out j (by omega)
        case measure => simp [intOf]; omega
      | false =>
        have HT := Lib.hid (takes_leads hq)
        have HQ := Lib.hid hq
        have ck := kd_cell S1.out.k hlt
        obtain ⟨KT, KV, hkv⟩ := kv_iface m i
        rw [hkv] at ck
        have HKV := Lib.hid hkv
        clear hkv
        obtain ⟨fw, hfw⟩ : ∃ fw, fw = s (Mn.fN m i) := ⟨_, rfl⟩
        have htw : s (Mn.tN m i) = !fw := by
          have := HQ.out
          rw [← hfw] at this
          cases fw <;> cases h : s (Mn.tN m i) <;> simp_all
        rw [← hfw] at y1 hq
        rw [htw] at y2 hq
        have HFW := Lib.hid hfw
        clear hfw htw
        cases fw with
        | true =>
          have HL : Hid (∀ w, Calls Tryz.prog 106 #[.iface KT KV, .int .i64 1] w fun e w' => e = .returned (.bool (leadsB m i true)) ∧ w' = w) := fun w => by
            have := leads_any m i (HR.out.p i hlt) true w
            rw [HKV.out] at this
            exact this
          obtain ⟨LB, hLB⟩ : ∃ LB, LB = leadsB m i true := ⟨_, rfl⟩
          rw [← hLB] at HL
          have HLB : Hid (Mn.takes m s i = LB) := by show _ = _; rw [HT.out, ← HFW.out, hLB]
          clear hLB HT
          go_wp2_with fail
          go_quiet (fail)
          go_wp2_with fail
          refine (HL.out _).mono ?_
          rintro e w2 ⟨rfl, e2⟩
          cases LB with
          | false =>
            subst w2
            go_wp2_with fail
            go_roundw
            case rel =>
              refine ⟨i + 1, by omega, by go_num, S1.out.below (ndrewN (Below.refl _ _) _), fun j hj => ?_⟩
              by_cases ej : j = i
              · subst ej; exact HLB.out
              · exact hP.out j (by omega)
            case measure => simp [intOf]; omega
          | true =>
            subst w2
            have HNX := Lib.hid (Mn.nextP_some hlt HLB.out hP.out)
            go_wp2_with fail
            refine (ends_f _ _ _ _ _ _).mono ?_
            rintro e w3 ⟨rfl, hb3⟩
            have S3 := Lib.hid (S1.out.below ((ndrewN (Below.refl _ Wb) _).trans (hb3.mono (Nat.le_refl _))))
            obtain ⟨⟨o0, o1, o2, o3⟩, z0, z1, z2, z3⟩ := rowN4 S3.out.row
            have lz := S3.out.row.lt
            have RF := Lib.hid (rowN4 (rowN_put (rowN_put (rowN_put (rowN_put S3.out.row 0 (.int .i64 (i : Int)) (by simp)) 1 (.int .i64 1) (by simp)) 2 (.int .i64 (Mn.fN m i : Int)) (by simp)) 3 (.int .i64 (Mn.tN m i : Int)) (by simp))).1
            have OL := Lib.hid ((((S3.out.old.setCell (p := ⟨w.heap.size, 0, none⟩) (Nat.le_refl _) (.int .i64 (i : Int))).setCell (p := ⟨w.heap.size, 1, none⟩) (Nat.le_refl _) (.int .i64 1)).setCell (p := ⟨w.heap.size, 2, none⟩) (Nat.le_refl _) (.int .i64 (Mn.fN m i : Int))).setCell (p := ⟨w.heap.size, 3, none⟩) (Nat.le_refl _) (.int .i64 (Mn.tN m i : Int)))
            clear hb3 x0 x1 x2 x3 x4 y1 y2 ck
            go_wp2_with fail
            obtain ⟨q0, q1, q2, q3⟩ := RF.out
            refine bodyPost_ret (v := .tuple #[brV m i true, .bool true]) ?_ rfl ⟨Or.inl ⟨i, hlt, HNX.out, by rw [← HFW.out]⟩, OL.out⟩
            simp only [results, Tryz.results94]
            simp [go_sem, q0, q1, q2, q3]
        | false =>
          have HL : Hid (∀ w, Calls Tryz.prog 106 #[.iface KT KV, .int .i64 (-1)] w fun e w' => e = .returned (.bool (leadsB m i false)) ∧ w' = w) := fun w => by
            have := leads_any m i (HR.out.p i hlt) false w
            rw [HKV.out] at this
            exact this
          obtain ⟨LB, hLB⟩ : ∃ LB, LB = leadsB m i false := ⟨_, rfl⟩
          rw [← hLB] at HL
          have HLB : Hid (Mn.takes m s i = LB) := by show _ = _; rw [HT.out, ← HFW.out, hLB]
          clear hLB HT
          go_wp2_with fail
          go_quiet (fail)
          go_wp2_with fail
          refine (HL.out _).mono ?_
          rintro e w2 ⟨rfl, e2⟩
          cases LB with
          | false =>
            subst w2
            go_wp2_with fail
            go_roundw
            case rel =>
              refine ⟨i + 1, by omega, by go_num, S1.out.below (ndrewN (Below.refl _ _) _), fun j hj => ?_⟩
              by_cases ej : j = i
              · subst ej; exact HLB.out
              · exact hP.out j (by omega)
            case measure => simp [intOf]; omega
          | true =>
            subst w2
            have HNX := Lib.hid (Mn.nextP_some hlt HLB.out hP.out)
            go_wp2_with fail
            refine (ends_b _ _ _ _ _ _).mono ?_
            rintro e w3 ⟨rfl, hb3⟩
            have S3 := Lib.hid (S1.out.below ((ndrewN (Below.refl _ Wb) _).trans (hb3.mono (Nat.le_refl _))))
            obtain ⟨⟨o0, o1, o2, o3⟩, z0, z1, z2, z3⟩ := rowN4 S3.out.row
            have lz := S3.out.row.lt
            have RF := Lib.hid (rowN4 (rowN_put (rowN_put (rowN_put (rowN_put S3.out.row 0 (.int .i64 (i : Int)) (by simp)) 1 (.int .i64 (-1)) (by simp)) 2 (.int .i64 (Mn.tN m i : Int)) (by simp)) 3 (.int .i64 (Mn.fN m i : Int)) (by simp))).1
            have OL := Lib.hid ((((S3.out.old.setCell (p := ⟨w.heap.size, 0, none⟩) (Nat.le_refl _) (.int .i64 (i : Int))).setCell (p := ⟨w.heap.size, 1, none⟩) (Nat.le_refl _) (.int .i64 (-1))).setCell (p := ⟨w.heap.size, 2, none⟩) (Nat.le_refl _) (.int .i64 (Mn.tN m i : Int))).setCell (p := ⟨w.heap.size, 3, none⟩) (Nat.le_refl _) (.int .i64 (Mn.fN m i : Int)))
            clear hb3 x0 x1 x2 x3 x4 y1 y2 ck
            go_wp2_with fail
            obtain ⟨q0, q1, q2, q3⟩ := RF.out
            refine bodyPost_ret (v := .tuple #[brV m i false, .bool true]) ?_ rfl ⟨Or.inl ⟨i, hlt, HNX.out, by rw [← HFW.out]⟩, OL.out⟩
            simp only [results, Tryz.results94]
            simp [go_sem, q0, q1, q2, q3]
    · obtain rfl : i = m.pn := by omega
      obtain ⟨⟨x0, x1, x2, x3⟩, z0, z1, z2, z3⟩ := rowN4 hS.out.row
      have HN := Lib.hid (Mn.nextP_none hP.out)
      have RF := Lib.hid (rowN4 (rowN_put (rowN_put (rowN_put (rowN_put hS.out.row 0 (.int .i64 0) (by simp)) 1 (.int .i64 0) (by simp)) 2 (.int .i64 0) (by simp)) 3 (.int .i64 0) (by simp))).1
      have OL := Lib.hid ((((hS.out.old.setCell (p := ⟨w.heap.size, 0, none⟩) (Nat.le_refl _) (.int .i64 0)).setCell (p := ⟨w.heap.size, 1, none⟩) (Nat.le_refl _) (.int .i64 0)).setCell (p := ⟨w.heap.size, 2, none⟩) (Nat.le_refl _) (.int .i64 0)).setCell (p := ⟨w.heap.size, 3, none⟩) (Nat.le_refl _) (.int .i64 0))
      have lz := hS.out.row.lt
      go_wp2_with fail
      obtain ⟨q0, q1, q2, q3⟩ := RF.out
      refine bodyPost_ret (v := .tuple #[brZ, .bool false]) ?_ rfl ⟨Or.inr ⟨HN.out, rfl⟩, OL.out⟩
      simp only [results, Tryz.results94]
      simp [go_sem, q0, q1, q2, q3]
theorem minfo_br : (Tryz.prog.info? 117).map (fun i => (i.zero, i.size, i.bytes)) = some (some (.agg #[.int .i64 0, .int .i64 0, .int .i64 0, .int .i64 0]), 4, 32) := by kernel_rfl
theorem lit_cells (W : World) (g : Nat) (hg : W.heap.size = g) (l : List Value) (T : TypeId) : ∀ (j : Nat) (u : Value), l[j]? = some u → (W.alloc (.cells ⟨l⟩ T)).cell? ((⟨g, 0, none⟩ : Addr).add j) = some u := by
  intro j u hj
  have R := rowN_alloc' hg l T
  have hl : j < l.length := by
    rcases Nat.lt_or_ge j l.length with h | h
    · exact h
    · rw [List.getElem?_eq_none h] at hj; cases hj
  have := R.cell hl
  have e : (⟨g, 0, none⟩ : Addr).add j = ⟨g, j, none⟩ := by simp [Addr.add]; omega
  rw [e, this]
  simp [rowN, hj]
theorem mown_shape {B n size : Nat} {e : TypeId} {v : Value} {xs : List Value} {W : World} (h : W.ownsRow B e size v n xs) : ∃ a c, v = .slice a n c := by
  rcases h.2 with h | ⟨g, cp, _, e, _⟩
  · exact ⟨none, 0, by rw [h.1, h.2]⟩
  · exact ⟨_, _, e⟩
theorem mown_low {B B' n size : Nat} {e : TypeId} {v : Value} {xs : List Value} {W : World} (h : W.ownsRow B e size v n xs) (hb : B' ≤ B) : W.ownsRow B' e size v n xs := ⟨h.1, h.2.imp id (fun ⟨g, cap, cur, e1, e2, r⟩ => ⟨g, cap, cur, e1, Nat.le_trans hb e2, r⟩)⟩
theorem mown_block {B n size : Nat} {e : TypeId} {v : Value} {xs : List Value} {W W' : World} (h : W.ownsRow B e size v n xs) (hb : ∀ k, v.ownBlock = some k → W'.heap[k]? = W.heap[k]?) : W'.ownsRow B e size v n xs := ⟨h.1, h.2.imp id (fun ⟨g, cap, cur, e1, e2, e3, r⟩ => ⟨g, cap, cur, e1, e2, (hb g (by rw [e1]; rfl)).trans e3, r⟩)⟩
theorem mown_below {B n size : Nat} {e : TypeId} {v : Value} {xs : List Value} {W W' : World} (h : W.ownsRow B e size v n xs) (hb : Below W.heap.size W W') : W'.ownsRow B e size v n xs := mown_block h (fun k hk => hb.block k (h.lt k hk).2)
structure GrS (m : Mn.Mains) (pa : Option Addr) (pk : Nat) (la : Option Addr) (lk : Nat) (wa : Option Addr) (wk : Nat) (gk t : Nat) (ov : Value) (w W : World) : Prop where
  s : MnS 27 m pa pk la lk wa wk w W
  k : KdBlk gk m W
  b : MBl (w.heap.size + 1) (Mn.nn m) (Mn.iter m t).1 W
  o : W.ownsRow (w.heap.size + 2) 117 4 ov (Mn.iter m t).2.length (brL m (Mn.iter m t).2)
  r : Mn.Real m t
theorem GrS.below {m : Mn.Mains} {pa : Option Addr} {pk : Nat} {la : Option Addr} {lk : Nat} {wa : Option Addr} {wk gk t : Nat} {ov : Value} {w W W' : World} (h : GrS m pa pk la lk wa wk gk t ov w W) (hb : Below W.heap.size W W') : GrS m pa pk la lk wa wk gk t ov w W' := ⟨h.s.below hb, h.k.below hb, h.b.below hb, mown_below h.o hb, h.r⟩
/-- What the growing of the tree tells: the tree and the nodes that are in. -/
def GrEnd (m : Mn.Mains) (B : Nat) (e : Ending) (W : World) : Prop := ∃ ov gi, e = .returned (.tuple #[ov, .slice (some ⟨gi, 0, none⟩) (Mn.nn m) (Mn.nn m)]) ∧ W.ownsRow B 117 4 ov (Mn.fin m).2.length (brL m (Mn.fin m).2) ∧ MBl gi (Mn.nn m) (Mn.fin m).1 W ∧ B ≤ gi
theorem mbl_new1 (w : World) (n : Nat) (hn : 1 ≤ n) : MBl w.heap.size n (fun j => j == 0) (w.alloc (.cells ((madeCells #[.bool false] n).setIfInBounds 0 (.bool true)) 4)) := by
  refine ⟨fun j => .bool (j == 0), ⟨_, blk_alloc_new _ _, by simp [size_madeCells], fun i hi => ?_⟩, fun _ _ => rfl⟩
  rw [Array.getElem?_setIfInBounds]
  by_cases e : i = 0
  · subst e; simp [size_madeCells]; omega
  · have e' : ¬ 0 = i := fun h => e h.symm
    simp [madeCells, hi, e', Nat.mod_one]
    simp [e]
def lenV : Value → Nat
  | .slice _ n _ => n
  | _ => 0
theorem mmk_nodes (m : Mn.Mains) (hr : Mn.Right m) (w : World) : (Instr.makeSlice 109 (.int .i64 m.nodes) (.int .i64 m.nodes)).run Tryz.prog w = .ok (.slice (some ⟨w.heap.size, 0, none⟩) (Mn.nn m) (Mn.nn m)) (w.alloc (.cells (madeCells #[.bool false] (Mn.nn m)) 4)) := by
  have h := hr.nn
  rw [h.1]
  exact mmk_bool (Mn.nn m) (by omega) w
set_option maxRecDepth 100000 in
set_option maxHeartbeats 8000000 in
theorem growTree_any (m : Mn.Mains) (pa : Option Addr) (pk : Nat) (la : Option Addr) (lk : Nat) (wa : Option Addr) (wk gk : Nat) (w : World) (h : MnAt m pa la wa w) (hk : KdBlk gk m w) (hr : Mn.Right m) :
    Calls Tryz.prog 72 #[mnV m pa pk la lk wa wk, .slice (some ⟨gk, 0, none⟩) m.pn m.pn] w fun e w' => GrEnd m w.heap.size e w' ∧ Below w.heap.size w w' := by
  obtain ⟨i1, hi1, hy0, hy1, hy2⟩ := info_parts minfo_br
  have hmk := mmk_nodes m hr
  have hmc : (madeCells #[.bool false] (Mn.nn m))[0]? = some (.bool false) := by have h := hr.nn; have h0 : 0 < Mn.nn m := h.2.1; simp [madeCells, h0]
  have HR := Lib.hid hr
  obtain ⟨hnn, hn1, hn2, hwn⟩ := hr.nn
  have hpn := hr.pn
  have HN := Lib.hid hnn
  have hn0 : (0 : Int) < (Mn.nn m : Int) := by omega
  obtain ⟨W0, hW0⟩ : ∃ W0, W0 = (w.alloc (.cells #[.int .i64 m.nodes, .int .i64 m.head, .slice pa m.pn pk, .slice la m.ln lk, .slice wa m.wn wk] 27)).alloc (.cells ((madeCells #[.bool false] (Mn.nn m)).setIfInBounds 0 (.bool true)) 4) := ⟨_, rfl⟩
  have HW0 := Lib.hid hW0
  have HGK : Hid (gk < w.heap.size) := hk.lt
  have ST : Hid (GrS m pa pk la lk wa wk gk 0 (.slice none 0 0) w W0) := by
    show GrS _ _ _ _ _ _ _ _ _ _ _ _
    rw [hW0]
    refine ⟨(MnS.new 27 (pk := pk) (lk := lk) (wk := wk) h).alloc _, (hk.below (nbel_alloc _ _)).below (nbel_alloc _ _), ?_, World.ownsRow_nil _ _ _ _, fun k hk => absurd hk (Nat.not_lt_zero _)⟩
    have := mbl_new1 (w.alloc (.cells #[.int .i64 m.nodes, .int .i64 m.head, .slice pa m.pn pk, .slice la m.ln lk, .slice wa m.wn wk] 27)) (Mn.nn m) hn1
    rwa [World.size_alloc] at this
  have HAT0 := Lib.hid h
  clear h hk hr hnn hW0 hwn
  go_enter Tryz.func72, Tryz.ntmps72
  go_wp2_with fail
  rw [← HW0.out]
  clear hmk hmc
  go_loopw [7] (fun ov wr => ∃ (t : Nat), Hid (GrS m pa pk la lk wa wk gk t ov w wr)) (fun ov _ => 12 - lenV ov)
  case atStart => exact ⟨0, ST⟩
  case round =>
    obtain ⟨t, hS⟩ := hrel
    obtain ⟨av, cv, rfl⟩ := mown_shape hS.out.o
    clear ST
    obtain ⟨⟨r0, r1, r2, r3, r4⟩, _⟩ := rowN5 hS.out.s.row
    go_wp2_with fail
    refine (nextBranch_any m pa pk gk (w.heap.size + 1) (Mn.iter m t).1 _ hS.out.s.at_.p hS.out.k hS.out.b HR.out).mono ?_
    rintro e w1 ⟨hN, hb⟩
    have S1 := Lib.hid (hS.out.below hb)
    have HIT := Lib.hid (Mn.it_ok HR.out t hS.out.r)
    clear hS hb r0 r1 r2 r3 r4
    rcases hN with ⟨i, hip, hnx, rfl⟩ | ⟨hnx, rfl⟩
    · have HNX := Lib.hid hnx
      clear hnx
      obtain ⟨fw, hfw⟩ : ∃ fw, fw = (Mn.iter m t).1 (Mn.fN m i) := ⟨_, rfl⟩
      rw [← hfw]
      have HFW := Lib.hid hfw
      clear hfw
      cases fw with
      | true =>
        have HSET : Hid (updB (Mn.iter m t).1 (Mn.tN m i) true = (Mn.iter m (t + 1)).1) := by
          show _ = _
          rw [Mn.iter_succ HNX.out]
          unfold Mn.stepAt
          simp only
          rw [Mn.step_set (Mn.nextP_spec HNX.out).2, ← HFW.out]
          rfl
        have HLST : Hid ((Mn.iter m (t + 1)).2 = (Mn.iter m t).2 ++ [(i, true)]) := by
          show _ = _
          rw [Mn.iter_succ HNX.out]
          unfold Mn.stepAt
          simp only
          rw [← HFW.out]
        have l2 : w.heap.size + 1 < w1.heap.size := S1.out.b.lt
        have ht1 : (Mn.tN m i : Int) < (Mn.nn m : Int) := by have := HR.out.fN hip; have := HR.out.tN hip; omega
        have htn : Mn.tN m i < Mn.nn m := by omega
        have yb := S1.out.b.cell htn
        have zb := S1.out.b.frozen (Mn.tN m i)
        obtain ⟨W2, hW2⟩ : ∃ W2, W2 = w1.setCell ⟨w.heap.size + 1, Mn.tN m i, none⟩ (.bool true) := ⟨_, rfl⟩
        have B2 : Hid (MBl (w.heap.size + 1) (Mn.nn m) (Mn.iter m (t + 1)).1 W2) := by show MBl _ _ _ _; rw [hW2, ← HSET.out]; exact S1.out.b.set _ _
        have O2 : Hid (W2.ownsRow (w.heap.size + 2) 117 4 (.slice av (Mn.iter m t).2.length cv) (Mn.iter m t).2.length (brL m (Mn.iter m t).2)) := by show World.ownsRow _ _ _ _ _ _ _; rw [hW2]; exact mown_block S1.out.o (fun k hk => Below.heap_setCell _ _ _ _ (by show k ≠ w.heap.size + 1; have := (S1.out.o.lt k hk).1; omega))
        have OLD2 : Hid (Below w.heap.size w W2) := by show Below _ _ _; rw [hW2]; exact S1.out.s.old.setCell (p := ⟨w.heap.size + 1, Mn.tN m i, none⟩) (by show w.heap.size ≤ w.heap.size + 1; omega) _
        have ROW2 : Hid (W2.rowIs w.heap.size 27 5 (rowN (mnL m pa pk la lk wa wk))) := by show World.rowIs _ _ _ _ _; rw [hW2]; exact nrow_set S1.out.s.row (p := ⟨w.heap.size + 1, Mn.tN m i, none⟩) (by show w.heap.size ≠ w.heap.size + 1; omega) _
        have KD2 : Hid (KdBlk gk m W2) := by show KdPart _ _ _ _; rw [hW2]; exact S1.out.k.block (Below.heap_setCell _ _ _ _ (by show gk ≠ w.heap.size + 1; have := HGK.out; omega))
        have HSZ2 : Hid (W2.heap.size = w1.heap.size) := by show _ = _; rw [hW2]; simp
        have hlen : (Mn.iter m t).2.length ≤ 12 := by have := HIT.out.len; have := Mn.real_lt HR.out S1.out.r; omega
        have HR1 := Lib.hid S1.out.r
        rw [hW2] at O2
        have HW2 := Lib.hid hW2
        clear hW2 S1
        go_wp2_with (at_builtin; refine wpList_append_lies _ rfl _ _ 71 rfl (w.heap.size + 2) 117 i1 (.agg #[.int .i64 0, .int .i64 0, .int .i64 0, .int .i64 0]) 4 32 Tryz.underlying71 hi1 hy0 hy1 hy2 rfl (by decide) _ _ _ rfl ((O2.out.alloc _).alloc _) ⟨w1.heap.size + 1, 0, none⟩ 1 1 [.int .i64 (i : Int), .int .i64 1, .int .i64 (Mn.fN m i : Int), .int .i64 (Mn.tN m i : Int)] rfl rfl ?a1 ?a2 ?a3 ?a4 ?a5 ?a6 (w1.heap.size + 2) ?a7 ?_)
        try (case a1 => exact lit_cells _ _ (by simp) _ _)
        try (case a2 => (intro u hu; simp at hu; rcases hu with rfl | rfl | rfl | rfl <;> rfl))
        try (case a3 => omega)
        try (case a4 => (unfold maxLen; omega))
        try (case a5 => omega)
        try (case a6 => first | omega | (simp; omega))
        try (case a7 => simp)
        intro g cap W3 hown hgrow hat hlt3
        have HO3 : Hid (W3.ownsRow (w.heap.size + 2) 117 4 (.slice (some ⟨g, 0, none⟩) ((Mn.iter m t).2.length + 1) cap) (Mn.iter m (t + 1)).2.length (brL m (Mn.iter m (t + 1)).2)) := Lib.hid (by
          rw [HLST.out, brL_app]
          simpa [brC] using hown)
        have HB2 : Hid (Below (w.heap.size + 2) W2 W3) := by
          show Below _ _ _
          rw [HW2.out]
          exact (((Below.refl _ _).alloc (by simp; omega) _).alloc (by simp; omega) _).grown hgrow (by simp; omega) (fun k hk => (O2.out.lt k hk).1)
        have S3 : Hid (GrS m pa pk la lk wa wk gk (t + 1) (.slice (some ⟨g, 0, none⟩) ((Mn.iter m t).2.length + 1) cap) w W3) := by
          have hb := HB2.out
          have hs := HSZ2.out
          have ho := OLD2.out.trans (hb.mono (by omega))
          exact ⟨⟨ROW2.out.of_block (hb.block _ (by omega)), HAT0.out.below ho, ho⟩, KD2.out.block (hb.block _ (by have := HGK.out; omega)), B2.out.block (hb.block _ (by omega)), HO3.out, Mn.real_succ HR1.out HNX.out⟩
        have HLEN : Hid ((Mn.iter m t).2.length + 1 ≤ 11) := by
          have h1 := Mn.real_lt HR.out S3.out.r
          have h2 := HIT.out.len
          have h3 : Mn.nn m ≤ 12 := hn2
          show _ ≤ _
          omega
        clear hown hgrow hat hlt3 HO3 HB2 ROW2 KD2 B2 O2 OLD2
        go_wp2_with fail
        go_roundw
        case rel => exact ⟨t + 1, S3⟩
        case measure =>
          have := HLEN.out
          simp [lenV]; omega
      | false =>
        have HSET : Hid (updB (Mn.iter m t).1 (Mn.fN m i) true = (Mn.iter m (t + 1)).1) := by
          show _ = _
          rw [Mn.iter_succ HNX.out]
          unfold Mn.stepAt
          simp only
          rw [Mn.step_set (Mn.nextP_spec HNX.out).2, ← HFW.out]
          rfl
        have HLST : Hid ((Mn.iter m (t + 1)).2 = (Mn.iter m t).2 ++ [(i, false)]) := by
          show _ = _
          rw [Mn.iter_succ HNX.out]
          unfold Mn.stepAt
          simp only
          rw [← HFW.out]
        have l2 : w.heap.size + 1 < w1.heap.size := S1.out.b.lt
        have ht1 : (Mn.fN m i : Int) < (Mn.nn m : Int) := by have := HR.out.fN hip; have := HR.out.tN hip; omega
        have htn : Mn.fN m i < Mn.nn m := by omega
        have yb := S1.out.b.cell htn
        have zb := S1.out.b.frozen (Mn.fN m i)
        obtain ⟨W2, hW2⟩ : ∃ W2, W2 = w1.setCell ⟨w.heap.size + 1, Mn.fN m i, none⟩ (.bool true) := ⟨_, rfl⟩
        have B2 : Hid (MBl (w.heap.size + 1) (Mn.nn m) (Mn.iter m (t + 1)).1 W2) := by show MBl _ _ _ _; rw [hW2, ← HSET.out]; exact S1.out.b.set _ _
        have O2 : Hid (W2.ownsRow (w.heap.size + 2) 117 4 (.slice av (Mn.iter m t).2.length cv) (Mn.iter m t).2.length (brL m (Mn.iter m t).2)) := by show World.ownsRow _ _ _ _ _ _ _; rw [hW2]; exact mown_block S1.out.o (fun k hk => Below.heap_setCell _ _ _ _ (by show k ≠ w.heap.size + 1; have := (S1.out.o.lt k hk).1; omega))
        have OLD2 : Hid (Below w.heap.size w W2) := by show Below _ _ _; rw [hW2]; exact S1.out.s.old.setCell (p := ⟨w.heap.size + 1, Mn.fN m i, none⟩) (by show w.heap.size ≤ w.heap.size + 1; omega) _
        have ROW2 : Hid (W2.rowIs w.heap.size 27 5 (rowN (mnL m pa pk la lk wa wk))) := by show World.rowIs _ _ _ _ _; rw [hW2]; exact nrow_set S1.out.s.row (p := ⟨w.heap.size + 1, Mn.fN m i, none⟩) (by show w.heap.size ≠ w.heap.size + 1; omega) _
        have KD2 : Hid (KdBlk gk m W2) := by show KdPart _ _ _ _; rw [hW2]; exact S1.out.k.block (Below.heap_setCell _ _ _ _ (by show gk ≠ w.heap.size + 1; have := HGK.out; omega))
        have HSZ2 : Hid (W2.heap.size = w1.heap.size) := by show _ = _; rw [hW2]; simp
        have hlen : (Mn.iter m t).2.length ≤ 12 := by have := HIT.out.len; have := Mn.real_lt HR.out S1.out.r; omega
        have HR1 := Lib.hid S1.out.r
        rw [hW2] at O2
        have HW2 := Lib.hid hW2
        clear hW2 S1
        go_wp2_with (at_builtin; refine wpList_append_lies _ rfl _ _ 71 rfl (w.heap.size + 2) 117 i1 (.agg #[.int .i64 0, .int .i64 0, .int .i64 0, .int .i64 0]) 4 32 Tryz.underlying71 hi1 hy0 hy1 hy2 rfl (by decide) _ _ _ rfl ((O2.out.alloc _).alloc _) ⟨w1.heap.size + 1, 0, none⟩ 1 1 [.int .i64 (i : Int), .int .i64 (-1), .int .i64 (Mn.tN m i : Int), .int .i64 (Mn.fN m i : Int)] rfl rfl ?b1 ?b2 ?b3 ?b4 ?b5 ?b6 (w1.heap.size + 2) ?b7 ?_)
        try (case b1 => exact lit_cells _ _ (by simp) _ _)
        try (case b2 => (intro u hu; simp at hu; rcases hu with rfl | rfl | rfl | rfl <;> rfl))
        try (case b3 => omega)
        try (case b4 => (unfold maxLen; omega))
        try (case b5 => omega)
        try (case b6 => first | omega | (simp; omega))
        try (case b7 => simp)
        intro g cap W3 hown hgrow hat hlt3
        have HO3 : Hid (W3.ownsRow (w.heap.size + 2) 117 4 (.slice (some ⟨g, 0, none⟩) ((Mn.iter m t).2.length + 1) cap) (Mn.iter m (t + 1)).2.length (brL m (Mn.iter m (t + 1)).2)) := Lib.hid (by
          rw [HLST.out, brL_app]
          simpa [brC] using hown)
        have HB2 : Hid (Below (w.heap.size + 2) W2 W3) := by
          show Below _ _ _
          rw [HW2.out]
          exact (((Below.refl _ _).alloc (by simp; omega) _).alloc (by simp; omega) _).grown hgrow (by simp; omega) (fun k hk => (O2.out.lt k hk).1)
        have S3 : Hid (GrS m pa pk la lk wa wk gk (t + 1) (.slice (some ⟨g, 0, none⟩) ((Mn.iter m t).2.length + 1) cap) w W3) := by
          have hb := HB2.out
          have hs := HSZ2.out
          have ho := OLD2.out.trans (hb.mono (by omega))
          exact ⟨⟨ROW2.out.of_block (hb.block _ (by omega)), HAT0.out.below ho, ho⟩, KD2.out.block (hb.block _ (by have := HGK.out; omega)), B2.out.block (hb.block _ (by omega)), HO3.out, Mn.real_succ HR1.out HNX.out⟩
        have HLEN : Hid ((Mn.iter m t).2.length + 1 ≤ 11) := by
          have h1 := Mn.real_lt HR.out S3.out.r
          have h2 := HIT.out.len
          have h3 : Mn.nn m ≤ 12 := hn2
          show _ ≤ _
          omega
        clear hown hgrow hat hlt3 HO3 HB2 ROW2 KD2 B2 O2 OLD2
        go_wp2_with fail
        go_roundw
        case rel => exact ⟨t + 1, S3⟩
        case measure =>
          have := HLEN.out
          simp [lenV]; omega
    · have HNX := Lib.hid hnx
      clear hnx
      go_wp2_with fail
      go_ret2
      have s1 := S1.out.below (nbel_alloc w1 (.cells #[.int .i64 0, .int .i64 0, .int .i64 0, .int .i64 0] 117))
      have hfin := Mn.fin_eq HR.out s1.r HNX.out
      exact ⟨⟨_, _, rfl, by rw [hfin]; exact mown_low s1.o (by omega), by rw [hfin]; exact s1.b, by omega⟩, s1.s.old⟩
end Go.Proofs.YtfgmalnkpgloiaaGreatDoor
