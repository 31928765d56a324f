/-
  Which flows may be, the start of mains: the program's walk.
-/
import Derived.Test.YtfgmalnkpgloiaaGreatDoorMnT2
import Derived.Test.YtfgmalnkpgloiaaGreatDoorErr
import Derived.Deep.DeepCutAuto
namespace Go.Proofs.YtfgmalnkpgloiaaGreatDoor
open Go.RowKit Go.Deep

abbrev rmV (la : Option Addr) (ln lk : Nat) (gk n : Nat) (fa : Option Addr) (fc : Nat) : Value := .agg #[.slice la ln lk, .slice (some ⟨gk, 0, none⟩) n n, .slice fa n fc]
structure WfS (m : Mn.Mains) (la : Option Addr) (ln lk gk : Nat) (fa : Option Addr) (fc : Nat) (f : Nat → Int) (w W : World) : Prop where
  row : W.rowIs w.heap.size 70 3 (rowN [.slice la ln lk, .slice (some ⟨gk, 0, none⟩) m.pn m.pn, .slice fa m.pn fc])
  k : KdBlk gk m W
  f : IsAt fa m.pn f W
  old : Below w.heap.size w W
theorem WfS.below {m : Mn.Mains} {la : Option Addr} {ln lk gk : Nat} {fa : Option Addr} {fc : Nat} {f : Nat → Int} {w W W' : World} (h : WfS m la ln lk gk fa fc f w W) (hb : Below W.heap.size W W') : WfS m la ln lk gk fa fc f w W' := ⟨nrow_below h.row hb, h.k.below hb, h.f.below hb, h.old.trans (hb.mono h.old.size)⟩
set_option maxRecDepth 100000 in
set_option maxHeartbeats 4000000 in
theorem wrongFlow_any (m : Mn.Mains) (la : Option Addr) (ln lk gk : Nat) (fa : Option Addr) (fc : Nat) (f : Nat → Int) (w : World) (hk : KdBlk gk m w) (hf : IsAt fa m.pn f w) (hr : Mn.Right m) :
    Calls Tryz.prog 75 #[rmV la ln lk gk m.pn fa fc] w fun e w' => (∃ r : Int, e = .returned (.int .i64 r) ∧ Mn.WrongAt m f r) ∧ Below w.heap.size w w' := by
  have ST : Hid (WfS m la ln lk gk fa fc f w (w.alloc (.cells #[.slice la ln lk, .slice (some ⟨gk, 0, none⟩) m.pn m.pn, .slice fa m.pn fc] 70))) := ⟨rowN_alloc w [.slice la ln lk, .slice (some ⟨gk, 0, none⟩) m.pn m.pn, .slice fa m.pn fc] _, hk.below (nbel_alloc _ _), hf.below (nbel_alloc _ _), nbel_alloc _ _⟩
  have hpn := hr.pn
  have HR := Lib.hid hr
  clear hk hf hr
  go_enter Tryz.func75, Tryz.ntmps75
  go_wp2_with fail
  go_loopw [8] (fun iv wr => ∃ (i : Nat), i ≤ m.pn ∧ iv = .int .i64 i ∧ Hid (WfS m la ln lk gk fa fc f w wr) ∧ Hid (∀ j, j < i → Mn.okF m f j)) (fun iv _ => m.pn - (intOf iv).toNat)
  case atStart => exact ⟨0, Nat.zero_le _, rfl, ST, fun j hj => absurd hj (Nat.not_lt_zero _)⟩
  case round =>
    obtain ⟨i, hi, rfl, hS, hP⟩ := hrel
    clear ST
    by_cases hlt : i < m.pn
    · have hltz : (i : Int) < (m.pn : Int) := by omega
      obtain ⟨fb, e, d0⟩ := hS.out.f.at1 hlt
      subst e
      have D0 := Lib.hid d0
      have ck := kd_cell hS.out.k hlt
      obtain ⟨KT, KV, ff, rr, hkv, hm, he, hc⟩ := mayBe_of m i (HR.out.p i hlt)
      rw [hkv] at ck
      have HC := Lib.hid hc
      obtain ⟨b1, hb1⟩ := nbool_of (Mn.lo m i ≤ f i ∧ f i ≤ Mn.hi m i)
      have K1 := Lib.hid hb1
      clear d0 hkv hc hb1
      go_wp2_with fail
      clear ck
      refine wp_region_held_drew (S := fun V => Below wr.heap.size wr V) (by kernel_rfl) (Below.refl _ _).drew (fun hHeld => ?_)
      obtain ⟨Z, hZ⟩ : ∃ Z, Z = wr.drew := ⟨_, rfl⟩
      rw [← hZ] at hHeld ⊢
      clear hZ
      refine take_do (i := 0) (v := (.iface KT KV)) rfl (by kernel_rfl) (by kernel_rfl) (by kernel_rfl) (fun _ _ _ h => h) (by rfl) ?_ (by assumption) ?_
      · intro w hSw
        skip
        go_simp
      simp only [Act.put, List.setIfInBounds_toArray, List.set_cons_zero, List.set_cons_succ]
      refine take_do (i := 2) (v := (.pointer (some ⟨w.heap.size, 2, none⟩))) rfl (by kernel_rfl) (by kernel_rfl) (by kernel_rfl) (fun _ _ _ h => h) (by rfl) ?_ (by assumption) ?_
      · intro w hSw
        skip
        go_simp
      simp only [Act.put, List.setIfInBounds_toArray, List.set_cons_zero, List.set_cons_succ]
      refine take_do (i := 3) (v := (.slice (some ⟨fb, 0, none⟩) m.pn fc)) rfl (by kernel_rfl) (by kernel_rfl) (by kernel_rfl) (fun _ _ _ h => h) (by rfl) ?_ (by assumption) ?_
      · intro w hSw
        obtain ⟨⟨r0, r1, r2⟩, _⟩ := rowN3 (nrow_below hS.out.row hSw)
        go_simp
      simp only [Act.put, List.setIfInBounds_toArray, List.set_cons_zero, List.set_cons_succ]
      refine take_do (i := 4) (v := (.int .i64 i)) rfl (by kernel_rfl) (by kernel_rfl) (by kernel_rfl) (fun _ _ _ h => h) (by rfl) ?_ (by assumption) ?_
      · intro w hSw
        skip
        go_simp
      simp only [Act.put, List.setIfInBounds_toArray, List.set_cons_zero, List.set_cons_succ]
      refine take_do (i := 5) (v := (.pointer (some ⟨fb, i, none⟩))) rfl (by kernel_rfl) (by kernel_rfl) (by kernel_rfl) (fun _ _ _ h => h) (by rfl) ?_ (by assumption) ?_
      · intro w hSw
        skip
        go_simp
      simp only [Act.put, List.setIfInBounds_toArray, List.set_cons_zero, List.set_cons_succ]
      refine take_do (i := 6) (v := (.int .i64 (f i))) rfl (by kernel_rfl) (by kernel_rfl) (by kernel_rfl) (fun _ _ _ h => h) (by rfl) ?_ (by assumption) ?_
      · intro w hSw
        have d0 := (hSw.cell (World.block_lt_of_cell? _ _ D0.out)).trans D0.out
        go_simp
      simp only [Act.put, List.setIfInBounds_toArray, List.set_cons_zero, List.set_cons_succ]
      refine take_call (i := 1) rfl (by kernel_rfl) (fun K2 hK => ?_)
      go_simp
      refine (HC.out _).mono ?_
      rintro e w2 ⟨rfl, hb⟩
      go_wp2_with fail
      refine hK.out _ _ (hHeld.trans (hb.mono hHeld.size)) (fun hHeld2 => ?_)
      clear hK hHeld hb
      have hHeld := hHeld2
      clear hHeld2
      refine take_call (i := 7) rfl (by kernel_rfl) (fun K2 hK => ?_)
      go_simp
      refine (holds_any _ _ _ b1 K1.out _).mono ?_
      rintro e w3 ⟨rfl, hb⟩
      go_wp2_with fail
      refine hK.out _ _ (hHeld.trans (hb.mono hHeld.size)) (fun hHeld2 => ?_)
      clear hK hHeld hb
      have hHeld := hHeld2
      clear hHeld2
      cases b1 with
      | true =>
        refine take_do (i := 8) (v := (.bool false)) rfl (by kernel_rfl) (by kernel_rfl) (by kernel_rfl) (fun _ _ _ h => h) (by rfl) ?_ (by assumption) ?_
        · intro w hSw
          skip
          go_simp
        simp only [Act.put, List.setIfInBounds_toArray, List.set_cons_zero, List.set_cons_succ]
        refine wpAnyH_done (by kernel_rfl) ?_ _
        have S3 := Lib.hid (hS.out.below hHeld)
        clear hHeld
        go_wp2_with fail
        go_roundw
        case rel =>
          refine ⟨i + 1, by omega, by go_num, S3, fun j hj => ?_⟩
          by_cases ej : j = i
          · subst ej; exact K1.out.1 (by trivial)
          · exact hP.out j (by omega)
        case measure => simp [intOf]; omega
      | false =>
        refine take_do (i := 8) (v := (.bool true)) rfl (by kernel_rfl) (by kernel_rfl) (by kernel_rfl) (fun _ _ _ h => h) (by rfl) ?_ (by assumption) ?_
        · intro w hSw
          skip
          go_simp
        simp only [Act.put, List.setIfInBounds_toArray, List.set_cons_zero, List.set_cons_succ]
        refine wpAnyH_done (by kernel_rfl) ?_ _
        have S3 := Lib.hid (hS.out.below hHeld)
        clear hHeld
        go_wp2_with fail
        go_ret
        exact ⟨⟨_, rfl, Or.inl ⟨i, hlt, rfl, fun k => (by have := K1.out.2 k; cases this), hP.out⟩⟩, S3.out.old⟩
    · obtain rfl : i = m.pn := by omega
      go_wp2_with fail
      go_ret
      exact ⟨⟨_, rfl, Or.inr ⟨rfl, hP.out⟩⟩, hS.out.old⟩
/-- An error that names a place. -/
abbrev stV (s : ByteArray) (a c : Int) : Value := .iface 107 (.agg #[.string s, .iface 114 (.agg #[.int .i64 a, .iface 105 (.agg #[.int .i64 c])])])
abbrev rmZ : Value := .agg #[.slice none 0 0, .slice none 0 0, .slice none 0 0]
/-- The error that stands for a code and a place. -/
def ErrS (ev : Value) (c a : Int) : Prop := (∃ s, ev = errV s c ∧ a = 0) ∨ ∃ s, ev = stV s a c
/-- The tree does not lie where the flows do. -/
def TrNe (tv : Value) (gf : Nat) : Prop := ∀ g n c, tv = .slice (some ⟨g, 0, none⟩) n c → n ≠ 0 → g ≠ gf
/-- What the start of mains tells. -/
inductive StEnd (m : Mn.Mains) (B : Nat) (la : Option Addr) (lk : Nat) (e : Ending) (W : World) : Prop
  | no (c a : Int) (ev : Value) : Mn.Start m c a → c ≠ 0 → ErrS ev c a → e = .returned (.tuple #[rmZ, .slice none 0 0, ev]) → StEnd m B la lk e W
  | ok (gk gf : Nat) (tv : Value) : Mn.Start m 0 0 → e = .returned (.tuple #[rmV la m.ln lk gk m.pn (some ⟨gf, 0, none⟩) m.pn, tv, .nilIface]) → KdBlk gk m W → IsBlk 2 gf m.pn (Mn.flows m) W → TrAt m tv (Mn.fin m).2 W → B ≤ gk → B ≤ gf → TrNe tv gf → StEnd m B la lk e W
structure SmS (m : Mn.Mains) (pa : Option Addr) (pk : Nat) (la : Option Addr) (lk : Nat) (wa : Option Addr) (wk : Nat) (w W : World) : Prop where
  row : W.rowIs w.heap.size 27 5 (rowN (mnL m pa pk la lk wa wk))
  res : W.rowIs (w.heap.size + 1) 70 3 (rowN [.slice none 0 0, .slice none 0 0, .slice none 0 0])
  at_ : MnAt m pa la wa W
  old : Below w.heap.size w W
theorem SmS.below {m : Mn.Mains} {pa : Option Addr} {pk : Nat} {la : Option Addr} {lk : Nat} {wa : Option Addr} {wk : Nat} {w W W' : World} (h : SmS m pa pk la lk wa wk w W) (hb : Below W.heap.size W W') : SmS m pa pk la lk wa wk w W' := ⟨nrow_below h.row hb, nrow_below h.res hb, h.at_.below hb, h.old.trans (hb.mono h.old.size)⟩
theorem SmS.done {m : Mn.Mains} {pa : Option Addr} {pk : Nat} {la : Option Addr} {lk : Nat} {wa : Option Addr} {wk : Nat} {w W : World} (h : SmS m pa pk la lk wa wk w W) (a b c : Value) : ((((W.setCell ⟨w.heap.size + 1, 0, none⟩ a).setCell ⟨w.heap.size + 1, 1, none⟩ b).setCell ⟨w.heap.size + 1, 2, none⟩ c).rowIs (w.heap.size + 1) 70 3 (rowN [a, b, c])) ∧ Below w.heap.size w (((W.setCell ⟨w.heap.size + 1, 0, none⟩ a).setCell ⟨w.heap.size + 1, 1, none⟩ b).setCell ⟨w.heap.size + 1, 2, none⟩ c) ∧ ∀ g, g ≠ w.heap.size + 1 → (((W.setCell ⟨w.heap.size + 1, 0, none⟩ a).setCell ⟨w.heap.size + 1, 1, none⟩ b).setCell ⟨w.heap.size + 1, 2, none⟩ c).heap[g]? = W.heap[g]? := by
  refine ⟨rowN_put (rowN_put (rowN_put h.res 0 a (by simp)) 1 b (by simp)) 2 c (by simp), ((h.old.setCell (p := ⟨w.heap.size + 1, 0, none⟩) (by show w.heap.size ≤ w.heap.size + 1; omega) _).setCell (p := ⟨w.heap.size + 1, 1, none⟩) (by show w.heap.size ≤ w.heap.size + 1; omega) _).setCell (p := ⟨w.heap.size + 1, 2, none⟩) (by show w.heap.size ≤ w.heap.size + 1; omega) _, fun g hg => ?_⟩
  rw [Below.heap_setCell _ _ _ _ hg, Below.heap_setCell _ _ _ _ hg, Below.heap_setCell _ _ _ _ hg]
set_option maxRecDepth 100000 in
set_option maxHeartbeats 8000000 in
theorem startMains_any (m : Mn.Mains) (pa : Option Addr) (pk : Nat) (la : Option Addr) (lk : Nat) (wa : Option Addr) (wk : Nat) (w : World) (h : MnAt m pa la wa w) :
    Calls Tryz.prog 38 #[mnV m pa pk la lk wa wk] w fun e w' => StEnd m w.heap.size la lk e w' ∧ Below w.heap.size w w' := by
  obtain ⟨W0, hW0⟩ : ∃ W0, W0 = (w.alloc (.cells #[.int .i64 m.nodes, .int .i64 m.head, .slice pa m.pn pk, .slice la m.ln lk, .slice wa m.wn wk] 27)).alloc (.cells #[.slice none 0 0, .slice none 0 0, .slice none 0 0] 70) := ⟨_, rfl⟩
  have S0 : Hid (SmS m pa pk la lk wa wk w W0) := by
    show SmS _ _ _ _ _ _ _ _ _
    rw [hW0]
    exact ⟨nrow_below (rowN_alloc w _ _) (nbel_alloc _ _), rowN_alloc' (by simp) _ _, (h.below (nbel_alloc _ _)).below (nbel_alloc _ _), mbel2 _ _ _⟩
  have HW0 := Lib.hid hW0
  clear h hW0
  go_enter Tryz.func38, Tryz.ntmps38
  go_wp2_with fail
  rw [← HW0.out]
  refine (implMains_any m pa pk la lk wa wk _ S0.out.at_).mono ?_
  rintro e w1 ⟨⟨b1, rfl, hb1⟩, hb⟩
  have S1 := Lib.hid (S0.out.below hb)
  have K1 := Lib.hid hb1
  clear hb hb1 S0
  cases b1 with
  | false =>
    have D := Lib.hid (S1.out.done (.slice none 0 0) (.slice none 0 0) (.slice none 0 0))
    obtain ⟨⟨x0, x1, x2⟩, z0, z1, z2⟩ := rowN3 S1.out.res
    have lx := S1.out.res.lt
    have HNR : Hid (¬ Mn.Right m) := fun k => by have := K1.out.2 k; cases this
    clear K1
    go_wp2_with fail
    obtain ⟨⟨q0, q1, q2⟩, _⟩ := rowN3 D.out.1
    refine bodyPost_ret (v := .tuple #[rmZ, .slice none 0 0, errV ⟨#[109, 97, 105, 110, 115]⟩ 1]) ?_ rfl ⟨StEnd.no 1 0 _ (.form HNR.out) (by omega) (Or.inl ⟨_, rfl, rfl⟩) rfl, D.out.2.1⟩
    simp only [results, Tryz.results38]
    simp [go_sem, q0, q1, q2]
  | true =>
  have HR := Lib.hid (K1.out.1 (by trivial))
  clear K1
  obtain ⟨⟨r0, r1, r2, r3, r4⟩, _⟩ := rowN5 S1.out.row
  go_wp2_with fail
  refine (kindsOf_any m pa pk _ S1.out.at_.p HR.out).mono ?_
  rintro e w2 ⟨⟨rfl, hkd⟩, hb⟩
  have S2 := Lib.hid (S1.out.below hb)
  obtain ⟨gk, hgk⟩ : ∃ gk, gk = w1.heap.size := ⟨_, rfl⟩
  rw [← hgk] at hkd ⊢
  have GK : Hid (w.heap.size + 1 < gk) := by show _ < _; rw [hgk]; exact S1.out.res.lt
  have K2 := Lib.hid hkd
  clear hb hkd hgk S1 r0 r1 r2 r3 r4
  obtain ⟨⟨r0, r1, r2, r3, r4⟩, _⟩ := rowN5 S2.out.row
  go_wp2_with fail
  refine (growTree_any m pa pk la lk wa wk gk _ S2.out.at_ K2.out HR.out).mono ?_
  rintro e w3 ⟨⟨tv, gi, rfl, hot, hmb, hgi⟩, hb⟩
  have S3 := Lib.hid (S2.out.below hb)
  have K3 := Lib.hid (K2.out.below hb)
  have T3 := Lib.hid (tr_of hot)
  have I3 := Lib.hid hmb
  clear hb hot hmb hgi S2 K2 r0 r1 r2 r3 r4
  obtain ⟨hnn, hn1, hn2, hwn⟩ := HR.out.nn
  clear hnn hwn
  obtain ⟨ta, tc, etv, _⟩ := T3.out
  subst etv
  go_wp2_with fail
  refine (index_any gi (Mn.nn m) _ (Mn.fin m).1 _ I3.out (by omega)).mono ?_
  rintro e w4 ⟨⟨r, rfl, hout⟩, e4⟩
  subst w4
  have HO := Lib.hid hout
  have hrb : -1 ≤ r ∧ r < 12 := by
    rcases hout with ⟨i, h1, h2, _⟩ | ⟨h1, _⟩ <;> omega
  obtain ⟨hrb1, hrb2⟩ := hrb
  clear hout
  by_cases hr0 : 0 ≤ r
  · have D := Lib.hid (S3.out.done (.slice none 0 0) (.slice none 0 0) (.slice none 0 0))
    obtain ⟨⟨x0, x1, x2⟩, z0, z1, z2⟩ := rowN3 S3.out.res
    have lx := S3.out.res.lt
    go_wp2_with fail
    obtain ⟨⟨q0, q1, q2⟩, _⟩ := rowN3 D.out.1
    refine bodyPost_ret (v := .tuple #[rmZ, .slice none 0 0, stV ⟨#[97, 32, 110, 111, 100, 101]⟩ r 4]) ?_ rfl ⟨StEnd.no 4 r _ (.none r HR.out HO.out hr0) (by omega) (Or.inr ⟨_, rfl⟩) rfl, D.out.2.1⟩
    simp only [results, Tryz.results38]
    simp [go_sem, q0, q1, q2]
  · have HO2 : Hid (Mn.OutAt (Mn.fin m).1 (Mn.nn m) (-1)) := by
      have e : r = -1 := by omega
      rw [← e]; exact HO.out
    clear HO I3
    obtain ⟨W5, hW5⟩ : ∃ W5, W5 = w3 := ⟨_, rfl⟩
    have S5 : Hid (SmS m pa pk la lk wa wk w W5) := by show SmS _ _ _ _ _ _ _ _ _; rw [hW5]; exact S3.out
    have T5 : Hid (TrAt m (.slice ta (Mn.fin m).2.length tc) (Mn.fin m).2 W5) := by show TrAt _ _ _ _; rw [hW5]; exact T3.out
    have K5 : Hid (KdBlk gk m W5) := by show KdPart _ _ _ _; rw [hW5]; exact K3.out
    rw [← hW5]
    clear hW5 S3 T3 K3
    go_wp2_with fail
    go_cut [9] (fun p V => ∃ gb gf, p = .pointer (some ⟨gb, 0, none⟩) ∧ Hid (V.rowIs gb 70 3 (rowN [.slice la m.ln lk, .slice (some ⟨gk, 0, none⟩) m.pn m.pn, .slice (some ⟨gf, 0, none⟩) m.pn m.pn]) ∧ IsBlk 2 gf m.pn (Mn.flows m) V ∧ Below W5.heap.size W5 V ∧ W5.heap.size ≤ gb ∧ W5.heap.size ≤ gf))
    case first =>
      refine wp_region_held_drew (S := fun V => Below W5.heap.size W5 V) (by kernel_rfl) (Below.refl _ _).drew (fun hHeld => ?_)
      obtain ⟨Z, hZ⟩ : ∃ Z, Z = W5.drew := ⟨_, rfl⟩
      rw [← hZ] at hHeld ⊢
      clear hZ
      refine take_do (i := 0) (v := (.pointer (some ⟨w.heap.size, 3, none⟩))) rfl (by kernel_rfl) (by kernel_rfl) (by kernel_rfl) (fun _ _ _ h => h) (by rfl) ?_ (by assumption) ?_
      · intro w hSw
        skip
        go_simp
      simp only [Act.put, List.setIfInBounds_toArray, List.set_cons_zero, List.set_cons_succ]
      refine take_do (i := 1) (v := (.slice la m.ln lk)) rfl (by kernel_rfl) (by kernel_rfl) (by kernel_rfl) (fun _ _ _ h => h) (by rfl) ?_ (by assumption) ?_
      · intro w hSw
        obtain ⟨⟨r0, r1, r2, r3, r4⟩, _⟩ := rowN5 (nrow_below S5.out.row hSw)
        go_simp
      simp only [Act.put, List.setIfInBounds_toArray, List.set_cons_zero, List.set_cons_succ]
      refine take_do (i := 2) (v := (.slice (some ⟨gk, 0, none⟩) m.pn m.pn)) rfl (by kernel_rfl) (by kernel_rfl) (by kernel_rfl) (fun _ _ _ h => h) (by rfl) ?_ (by assumption) ?_
      · intro w hSw
        skip
        go_simp
      simp only [Act.put, List.setIfInBounds_toArray, List.set_cons_zero, List.set_cons_succ]
      refine take_do (i := 3) (v := (mnV m pa pk la lk wa wk)) rfl (by kernel_rfl) (by kernel_rfl) (by kernel_rfl) (fun _ _ _ h => h) (by rfl) ?_ (by assumption) ?_
      · intro w hSw
        obtain ⟨⟨r0, r1, r2, r3, r4⟩, _⟩ := rowN5 (nrow_below S5.out.row hSw)
        go_simp
      simp only [Act.put, List.setIfInBounds_toArray, List.set_cons_zero, List.set_cons_succ]
      refine take_do (i := 4) (v := (.slice ta (Mn.fin m).2.length tc)) rfl (by kernel_rfl) (by kernel_rfl) (by kernel_rfl) (fun _ _ _ h => h) (by rfl) ?_ (by assumption) ?_
      · intro w hSw
        skip
        go_simp
      simp only [Act.put, List.setIfInBounds_toArray, List.set_cons_zero, List.set_cons_succ]
      refine wpAnyH_ready (rs := [5, 7]) (by kernel_rfl) (by simp) (AllReadyH.cons (at_drop (i := 5) rfl) (fun K2 hK => ?_) (AllReadyH.cons (at_drop (i := 7) rfl) (fun K2 hK => ?_) (AllReadyH.nil)))
      · go_simp
        refine (treeFlows_any m pa pk la lk wa wk (.slice ta (Mn.fin m).2.length tc) _ (S5.out.at_.below hHeld) (T5.out.below hHeld) HR.out).mono ?_
        rintro e Z1 ⟨⟨he, hkf⟩, hb⟩
        obtain ⟨gf, hgf⟩ : ∃ gf, gf = Z.heap.size + 1 := ⟨_, rfl⟩
        rw [← hgf] at hkf he
        subst he
        have KF := Lib.hid hkf
        have HGF : Hid (W5.heap.size ≤ gf) := by show _ ≤ _; rw [hgf]; have := hHeld.size; omega
        clear hkf hgf
        go_wp2_with fail
        refine hK.out _ _ (hHeld.trans (hb.mono hHeld.size)) (fun hHeld2 => ?_)
        clear hK hHeld
        have hHeld := hHeld2
        clear hHeld2
        clear hb
        refine take_do (i := 6) (v := (.agg #[.slice la m.ln lk, .slice (some ⟨gk, 0, none⟩) m.pn m.pn, .slice (some ⟨gf, 0, none⟩) m.pn m.pn])) rfl (by kernel_rfl) (by kernel_rfl) (by kernel_rfl) (fun _ _ _ h => h) (by rfl) ?_ (by assumption) ?_
        · intro w hSw
          skip
          go_simp
        simp only [Act.put, List.setIfInBounds_toArray, List.set_cons_zero, List.set_cons_succ]
        refine take_call (i := 7) rfl (by kernel_rfl) (fun K2 hK => ?_)
        obtain ⟨Z2, hZ2⟩ : ∃ Z2, Z2 = Z1.alloc (.cells #[.slice none 0 0, .slice none 0 0, .slice none 0 0] 70) := ⟨_, rfl⟩
        have hb : Below Z1.heap.size Z1 Z2 := by rw [hZ2]; exact nbel_alloc _ _
        obtain ⟨gb, hgb⟩ : ∃ gb, gb = Z1.heap.size := ⟨_, rfl⟩
        have RZ : Hid (Z2.rowIs gb 70 3 (rowN [.slice none 0 0, .slice none 0 0, .slice none 0 0])) := by show World.rowIs _ _ _ _ _; rw [hZ2, hgb]; exact rowN_alloc _ _ _
        have HGB : Hid (W5.heap.size ≤ gb) := by show _ ≤ _; rw [hgb]; exact hHeld.size
        have HNE : Hid (gf ≠ gb) := by show _ ≠ _; have := KF.out.lt; omega
        replace KF := Lib.hid (KF.out.below hb)
        go_simp
        rw [← hZ2, ← hgb]
        refine hK.out _ _ (hHeld.trans (hb.mono hHeld.size)) (fun hHeld2 => ?_)
        clear hK hHeld
        have hHeld := hHeld2
        clear hHeld2
        clear hb hZ2 hgb
        have o0 := RZ.out.cell (i := 0) (by omega)
        have z0 := RZ.out.frozen 0
        have o1 := RZ.out.cell (i := 1) (by omega)
        have z1 := RZ.out.frozen 1
        have o2 := RZ.out.cell (i := 2) (by omega)
        have z2 := RZ.out.frozen 2
        have l0 := RZ.out.lt
        obtain ⟨WZ, hWZ⟩ : ∃ WZ, WZ = (((Z2.setCell ⟨gb, 0, none⟩ (.slice la m.ln lk)).setCell ⟨gb, 1, none⟩ (.slice (some ⟨gk, 0, none⟩) m.pn m.pn)).setCell ⟨gb, 2, none⟩ (.slice (some ⟨gf, 0, none⟩) m.pn m.pn)) := ⟨_, rfl⟩
        have hbZ : Below W5.heap.size W5 WZ := by rw [hWZ]; exact (((hHeld.setCell (p := ⟨gb, 0, none⟩) HGB.out _).setCell (p := ⟨gb, 1, none⟩) HGB.out _).setCell (p := ⟨gb, 2, none⟩) HGB.out _)
        have HFM : Hid (WZ.rowIs gb 70 3 (rowN [.slice la m.ln lk, .slice (some ⟨gk, 0, none⟩) m.pn m.pn, .slice (some ⟨gf, 0, none⟩) m.pn m.pn])) := by show World.rowIs _ _ _ _ _; rw [hWZ]; exact (rowN_put (rowN_put (rowN_put RZ.out 0 (.slice la m.ln lk) (by simp)) 1 (.slice (some ⟨gk, 0, none⟩) m.pn m.pn) (by simp)) 2 (.slice (some ⟨gf, 0, none⟩) m.pn m.pn) (by simp))
        have HKF : Hid (IsBlk 2 gf m.pn (Mn.flows m) WZ) := by show IsBlk _ _ _ _ _; rw [hWZ]; exact (((KF.out.block (Below.heap_setCell _ _ _ _ HNE.out)).block (Below.heap_setCell _ _ _ _ HNE.out)).block (Below.heap_setCell _ _ _ _ HNE.out))
        have HWZ := Lib.hid hWZ
        have HBZ := Lib.hid hbZ
        clear hWZ hbZ
        refine take_call (i := 8) rfl (by kernel_rfl) (fun K2 hK => ?_)
        go_simp
        rw [← HWZ.out]
        refine hK.out _ _ HBZ.out (fun hHeld2 => ?_)
        clear hK hHeld hHeld2 HWZ o0 z0 o1 z1 o2 z2 l0
        refine wpAnyH_done (by kernel_rfl) ?_ _
        go_wp2_with fail
        go_meet
        case rel => exact ⟨gb, gf, rfl, HFM.out, HKF.out, HBZ.out, HGB.out, HGF.out⟩
      · obtain ⟨Z3, hZ3⟩ : ∃ Z3, Z3 = Z.alloc (.cells #[.slice none 0 0, .slice none 0 0, .slice none 0 0] 70) := ⟨_, rfl⟩
        have hb : Below Z.heap.size Z Z3 := by rw [hZ3]; exact nbel_alloc _ _
        obtain ⟨gb, hgb⟩ : ∃ gb, gb = Z.heap.size := ⟨_, rfl⟩
        have RZ : Hid (Z3.rowIs gb 70 3 (rowN [.slice none 0 0, .slice none 0 0, .slice none 0 0])) := by show World.rowIs _ _ _ _ _; rw [hZ3, hgb]; exact rowN_alloc _ _ _
        have HGB : Hid (W5.heap.size ≤ gb) := by show _ ≤ _; rw [hgb]; exact hHeld.size
        go_simp
        rw [← hZ3, ← hgb]
        refine hK.out _ _ (hHeld.trans (hb.mono hHeld.size)) (fun hHeld2 => ?_)
        clear hK hHeld
        have hHeld := hHeld2
        clear hHeld2
        clear hb hZ3 hgb
        refine take_call (i := 5) rfl (by kernel_rfl) (fun K2 hK => ?_)
        go_simp
        refine (treeFlows_any m pa pk la lk wa wk (.slice ta (Mn.fin m).2.length tc) _ (S5.out.at_.below hHeld) (T5.out.below hHeld) HR.out).mono ?_
        rintro e Z4 ⟨⟨he, hkf⟩, hb⟩
        obtain ⟨gf, hgf⟩ : ∃ gf, gf = Z3.heap.size + 1 := ⟨_, rfl⟩
        rw [← hgf] at hkf he
        subst he
        have KF := Lib.hid hkf
        have HGF : Hid (W5.heap.size ≤ gf) := by show _ ≤ _; rw [hgf]; have := hHeld.size; omega
        have HNE : Hid (gf ≠ gb) := by show _ ≠ _; have := RZ.out.lt; omega
        replace RZ := Lib.hid (nrow_below RZ.out hb)
        clear hkf hgf
        go_wp2_with fail
        refine hK.out _ _ (hHeld.trans (hb.mono hHeld.size)) (fun hHeld2 => ?_)
        clear hK hHeld
        have hHeld := hHeld2
        clear hHeld2
        clear hb
        refine take_do (i := 6) (v := (.agg #[.slice la m.ln lk, .slice (some ⟨gk, 0, none⟩) m.pn m.pn, .slice (some ⟨gf, 0, none⟩) m.pn m.pn])) rfl (by kernel_rfl) (by kernel_rfl) (by kernel_rfl) (fun _ _ _ h => h) (by rfl) ?_ (by assumption) ?_
        · intro w hSw
          skip
          go_simp
        simp only [Act.put, List.setIfInBounds_toArray, List.set_cons_zero, List.set_cons_succ]
        have o0 := RZ.out.cell (i := 0) (by omega)
        have z0 := RZ.out.frozen 0
        have o1 := RZ.out.cell (i := 1) (by omega)
        have z1 := RZ.out.frozen 1
        have o2 := RZ.out.cell (i := 2) (by omega)
        have z2 := RZ.out.frozen 2
        have l0 := RZ.out.lt
        obtain ⟨WZ, hWZ⟩ : ∃ WZ, WZ = (((Z4.setCell ⟨gb, 0, none⟩ (.slice la m.ln lk)).setCell ⟨gb, 1, none⟩ (.slice (some ⟨gk, 0, none⟩) m.pn m.pn)).setCell ⟨gb, 2, none⟩ (.slice (some ⟨gf, 0, none⟩) m.pn m.pn)) := ⟨_, rfl⟩
        have hbZ : Below W5.heap.size W5 WZ := by rw [hWZ]; exact (((hHeld.setCell (p := ⟨gb, 0, none⟩) HGB.out _).setCell (p := ⟨gb, 1, none⟩) HGB.out _).setCell (p := ⟨gb, 2, none⟩) HGB.out _)
        have HFM : Hid (WZ.rowIs gb 70 3 (rowN [.slice la m.ln lk, .slice (some ⟨gk, 0, none⟩) m.pn m.pn, .slice (some ⟨gf, 0, none⟩) m.pn m.pn])) := by show World.rowIs _ _ _ _ _; rw [hWZ]; exact (rowN_put (rowN_put (rowN_put RZ.out 0 (.slice la m.ln lk) (by simp)) 1 (.slice (some ⟨gk, 0, none⟩) m.pn m.pn) (by simp)) 2 (.slice (some ⟨gf, 0, none⟩) m.pn m.pn) (by simp))
        have HKF : Hid (IsBlk 2 gf m.pn (Mn.flows m) WZ) := by show IsBlk _ _ _ _ _; rw [hWZ]; exact (((KF.out.block (Below.heap_setCell _ _ _ _ HNE.out)).block (Below.heap_setCell _ _ _ _ HNE.out)).block (Below.heap_setCell _ _ _ _ HNE.out))
        have HWZ := Lib.hid hWZ
        have HBZ := Lib.hid hbZ
        clear hWZ hbZ
        refine take_call (i := 8) rfl (by kernel_rfl) (fun K2 hK => ?_)
        go_simp
        rw [← HWZ.out]
        refine hK.out _ _ HBZ.out (fun hHeld2 => ?_)
        clear hK hHeld hHeld2 HWZ o0 z0 o1 z1 o2 z2 l0
        refine wpAnyH_done (by kernel_rfl) ?_ _
        go_wp2_with fail
        go_meet
        case rel => exact ⟨gb, gf, rfl, HFM.out, HKF.out, HBZ.out, HGB.out, HGF.out⟩
    case rest =>
      obtain ⟨gb, gf, rfl, C⟩ := hcut
      obtain ⟨⟨x0, x1, x2⟩, _⟩ := rowN3 C.out.1
      have S6 := Lib.hid (S5.out.below C.out.2.2.1)
      go_wp2_with fail
      refine (wrongFlow_any m la m.ln lk gk (some ⟨gf, 0, none⟩) m.pn (Mn.flows m) _ (K5.out.below C.out.2.2.1) C.out.2.1.at_ HR.out).mono ?_
      rintro e w7 ⟨⟨z, rfl, hwr⟩, hb⟩
      have HWR := Lib.hid hwr
      have hzb := hwr.pos HR.out.pn
      obtain ⟨hzb1, hzb2⟩ := hzb
      have S7 := Lib.hid (S6.out.below hb)
      have C7 := Lib.hid (nrow_below C.out.1 hb)
      have F7 := Lib.hid (C.out.2.1.below hb)
      have K7 := Lib.hid ((K5.out.below C.out.2.2.1).below hb)
      have T7 := Lib.hid ((T5.out.below C.out.2.2.1).below hb)
      have HGF : Hid (w.heap.size + 1 < gf) := by show _ < _; have := C.out.2.2.2.2; have := S5.out.res.lt; omega
      have HTN : Hid (TrNe (.slice ta (Mn.fin m).2.length tc) gf) := by
        intro g n c e hn
        obtain ⟨a', c', e', hq⟩ := T5.out
        have h5 := C.out.2.2.2.2
        cases e
        rcases hq with hq | ⟨g', eg, hg', _⟩
        · rw [hq] at hn
          exact absurd rfl hn
        · cases e'
          cases eg
          omega
      have HGB : Hid (w.heap.size + 1 < gb) := by show _ < _; have := C.out.2.2.2.1; have := S5.out.res.lt; omega
      clear hwr hb C S6 K5 T5 x0 x1 x2
      by_cases hz0 : 0 ≤ z
      · have D := Lib.hid (S7.out.done (.slice none 0 0) (.slice none 0 0) (.slice none 0 0))
        obtain ⟨⟨x0, x1, x2⟩, z0, z1, z2⟩ := rowN3 S7.out.res
        have lx := S7.out.res.lt
        go_wp2_with fail
        obtain ⟨⟨q0, q1, q2⟩, _⟩ := rowN3 D.out.1
        refine bodyPost_ret (v := .tuple #[rmZ, .slice none 0 0, stV ⟨#[97, 32, 112, 105, 112, 101]⟩ z 5]) ?_ rfl ⟨StEnd.no 5 z _ (.over z HR.out HO2.out HWR.out hz0) (by omega) (Or.inr ⟨_, rfl⟩) rfl, D.out.2.1⟩
        simp only [results, Tryz.results38]
        simp [go_sem, q0, q1, q2]
      · have HW2 : Hid (Mn.WrongAt m (Mn.flows m) (-1)) := by
          have e : z = -1 := by omega
          rw [← e]; exact HWR.out
        have D := Lib.hid (S7.out.done (.slice la m.ln lk) (.slice (some ⟨gk, 0, none⟩) m.pn m.pn) (.slice (some ⟨gf, 0, none⟩) m.pn m.pn))
        obtain ⟨⟨x0, x1, x2⟩, z0, z1, z2⟩ := rowN3 S7.out.res
        obtain ⟨⟨y0, y1, y2⟩, _⟩ := rowN3 C7.out
        have lx := S7.out.res.lt
        go_wp2_with fail
        obtain ⟨⟨q0, q1, q2⟩, _⟩ := rowN3 D.out.1
        have b := D.out.2.2
        have g1 := GK.out
        have g2 := HGF.out
        have tr : TrAt m (.slice ta (Mn.fin m).2.length tc) (Mn.fin m).2 (((w7.setCell ⟨w.heap.size + 1, 0, none⟩ (.slice la m.ln lk)).setCell ⟨w.heap.size + 1, 1, none⟩ (.slice (some ⟨gk, 0, none⟩) m.pn m.pn)).setCell ⟨w.heap.size + 1, 2, none⟩ (.slice (some ⟨gf, 0, none⟩) m.pn m.pn)) := by
          obtain ⟨ta', tc', e1, q⟩ := T7.out
          refine ⟨ta', tc', e1, ?_⟩
          rcases q with q | ⟨g, eg, hg, hc⟩
          · exact Or.inl q
          · refine Or.inr ⟨g, eg, by simpa using hg, fun k x hx => ?_⟩
            have hg1 : g ≠ w.heap.size + 1 := by
              intro e
              have hl0 : 0 < (Mn.fin m).2.length := by
                have := (List.getElem?_eq_some_iff.1 hx).1
                omega
              have := (hc 0 _ (List.getElem?_eq_getElem hl0)).1
              rw [e, Nat.zero_mul, x0] at this
              cases this
            have cc : ∀ o, (((w7.setCell ⟨w.heap.size + 1, 0, none⟩ (.slice la m.ln lk)).setCell ⟨w.heap.size + 1, 1, none⟩ (.slice (some ⟨gk, 0, none⟩) m.pn m.pn)).setCell ⟨w.heap.size + 1, 2, none⟩ (.slice (some ⟨gf, 0, none⟩) m.pn m.pn)).cell? ⟨g, o, none⟩ = w7.cell? ⟨g, o, none⟩ := fun o => World.cell?_of_block (a := ⟨g, o, none⟩) (b g hg1)
            exact ⟨(cc _).trans (hc k x hx).1, (cc _).trans (hc k x hx).2.1, (cc _).trans (hc k x hx).2.2.1, (cc _).trans (hc k x hx).2.2.2⟩
        refine bodyPost_ret (v := .tuple #[rmV la m.ln lk gk m.pn (some ⟨gf, 0, none⟩) m.pn, .slice ta (Mn.fin m).2.length tc, .nilIface]) ?_ rfl ⟨StEnd.ok gk gf _ (.ok HR.out HO2.out HW2.out) rfl (K7.out.block (b _ (by omega))) (F7.out.block (b _ (by omega))) tr (by omega) (by omega) HTN.out, D.out.2.1⟩
        simp only [results, Tryz.results38]
        simp [go_sem, q0, q1, q2]
end Go.Proofs.YtfgmalnkpgloiaaGreatDoor
