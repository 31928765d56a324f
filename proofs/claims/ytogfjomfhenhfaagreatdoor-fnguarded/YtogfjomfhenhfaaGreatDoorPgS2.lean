/-
  The model's test of a program.
-/
import Derived.Test.YtogfjomfhenhfaaGreatDoorPgS1
namespace Go.Proofs.YtogfjomfhenhfaaGreatDoor
open Go.RowKit Go.Deep

set_option maxRecDepth 100000 in
set_option maxHeartbeats 1000000 in
theorem gshas_any (a : Option Addr) (n cap : Nat) (f : Nat → Int) (x : Int) (w : World) (h : IsAt a n f w) (hn : n ≤ 1048576) :
    Calls Tryz.prog 49 #[.slice a n cap, .int .i64 x] w fun e w' => e = .returned (.bool (dB (Pl.Has n f x))) ∧ w' = w := by
  have H := Lib.hid h
  clear h
  go_enter Tryz.func49, Tryz.ntmps49
  go_wp2_with fail
  go_loopw [5] (fun iv wr => ∃ (i : Nat), i ≤ n ∧ iv = .int .i64 i ∧ wr = w ∧ Hid (∀ j, j < i → f j ≠ x)) (fun iv _ => n - (intOf iv).toNat)
  case atStart => exact ⟨0, Nat.zero_le _, rfl, rfl, fun j hj => absurd hj (Nat.not_lt_zero _)⟩
  case round =>
    obtain ⟨i, hi, rfl, rfl, hP⟩ := hrel
    by_cases hlt : i < n
    · have hltz : (i : Int) < (n : Int) := by omega
      obtain ⟨b, e, c0⟩ := H.out.at1 hlt
      subst e
      by_cases c : f i = x
      · have HC : Hid (dB (Pl.Has n f x) = true) := dB_tt ⟨i, hlt, c⟩
        have c' : (f i == x) = true := by simp [c]
        clear c
        go_wp2_with fail
        go_ret
        exact ⟨by rw [HC.out]; rfl, rfl⟩
      · have HC := Lib.hid c
        have c' : (f i == x) = false := by simp [c]
        clear c
        go_wp2_with fail
        go_roundw
        case rel => exact ⟨i + 1, by omega, by go_num, by trivial, fun j hj => by
          by_cases e : j = i
          · subst e; exact HC.out
          · exact hP.out j (by omega)⟩
        case measure => simp [intOf]; omega
    · obtain rfl : i = n := by omega
      have HC : Hid (dB (Pl.Has i f x) = false) := dB_ff (fun ⟨j, hj, e⟩ => hP.out j hj e)
      go_wp2_with fail
      go_ret
      exact ⟨by rw [HC.out]; rfl, rfl⟩
/-- What lasts in the test of a block. -/
structure SbS (p : Pg.Prog) (la : Option Addr) (lk : Nat) (fa : Option Addr) (fk : Nat) (wa : Option Addr) (wk : Nat) (x : Pg.Bk) (w W : World) : Prop where
  box : W.rowIs w.heap.size 27 3 (rowN (pgL p la lk fa fk wa wk))
  loc : W.rowIs (w.heap.size + 1) 84 4 (rowN [.int .i64 x.kind, .string x.name, .int .i64 x.a, .int .i64 x.b])
  old : Below w.heap.size w W
theorem SbS.below {p : Pg.Prog} {la : Option Addr} {lk : Nat} {fa : Option Addr} {fk : Nat} {wa : Option Addr} {wk : Nat} {x : Pg.Bk} {w W W' : World} (h : SbS p la lk fa fk wa wk x w W) (hb : Below W.heap.size W W') : SbS p la lk fa fk wa wk x w W' := ⟨nrow_below h.box hb, nrow_below h.loc hb, h.old.trans (hb.mono h.old.size)⟩
set_option maxRecDepth 100000 in
set_option maxHeartbeats 8000000 in
theorem sBlock_any (p : Pg.Prog) (la : Option Addr) (lk : Nat) (fa : Option Addr) (fk : Nat) (wa : Option Addr) (wk : Nat) (i : Nat) (w : World) (h : BksAt la p.bn p.B w) (hs : PgNames p.bn p.B) (hn : p.bn ≤ 1048576) (hi : i < p.bn) :
    Calls Tryz.prog 48 #[pgV p la lk fa fk wa wk, .int .i64 i] w fun e w' => e = .returned (.bool (dB (Pg.BlockOk p i))) ∧ Below w.heap.size w w' := by
  obtain ⟨W, hW⟩ : ∃ W, W = (w.alloc (.cells #[.slice la p.bn lk, .slice fa p.on fk, .slice wa p.nn wk] 27)).alloc (.cells #[.int .i64 (p.B i).kind, .string (p.B i).name, .int .i64 (p.B i).a, .int .i64 (p.B i).b] 84) := ⟨_, rfl⟩
  have S0 : Hid (SbS p la lk fa fk wa wk (p.B i) w W) := by
    show SbS _ _ _ _ _ _ _ _ _ _
    rw [hW]
    exact ⟨nrow_below (rowN_alloc w _ _) (nbel_alloc _ _), rowN_alloc' (by simp) _ _, (nbel_alloc _ _).alloc (by simp) _⟩
  have H := Lib.hid h
  have HN := Lib.hid hs
  have HW := Lib.hid hW
  obtain ⟨b, rfl, c0, c1, c2, c3⟩ := h.at_ hi
  have hbl : b < w.heap.size := World.block_lt_of_cell? _ _ c0
  have hiz : (i : Int) < (p.bn : Int) := by omega
  clear h hs hW
  go_enter Tryz.func48, Tryz.ntmps48
  go_wp2_with fail
  rw [← HW.out]
  clear c0 c1 c2 c3
  refine (sFree_any (p.B i).name _ (by have := HN.out i hi; omega)).mono ?_
  rintro e w1 ⟨rfl, hb⟩
  have S1 := Lib.hid (S0.out.below hb)
  clear hb S0
  by_cases kf : Pg.Free (p.B i).name
  · rw [dB_tt kf]
    have KF := Lib.hid kf
    clear kf
    go_wp2_with fail
    go_loopw [8] (fun kv wr => ∃ (k : Nat), k ≤ i ∧ kv = .int .i64 k ∧ Hid (SbS p (some ⟨b, 0, none⟩) lk fa fk wa wk (p.B i) w wr) ∧ Hid (∀ j, j < k → (p.B j).name ≠ (p.B i).name)) (fun kv _ => i - (intOf kv).toNat)
    case atStart => exact ⟨0, Nat.zero_le _, rfl, S1, fun j hj => absurd hj (Nat.not_lt_zero _)⟩
    case round =>
      obtain ⟨k, hk, rfl, hS, hP⟩ := hrel
      clear S1
      obtain ⟨⟨x0, x1, x2⟩, _⟩ := rowN3 hS.out.box
      obtain ⟨⟨y0, y1, y2, y3⟩, _⟩ := rowN4 hS.out.loc
      by_cases hlt : k < i
      · have hltz : (k : Int) < (i : Int) := by omega
        have hkz : (k : Int) < (p.bn : Int) := by omega
        obtain ⟨b', eb, c0, c1, c2, c3⟩ := (H.out.below hS.out.old).at_ (show k < p.bn by omega)
        obtain rfl : b' = b := by simpa using eb.symm
        clear eb
        by_cases q : (p.B k).name = (p.B i).name
        · have HK : Hid (dB (Pg.BlockOk p i) = false) := dB_ff (fun z => z.2.1 k hlt q)
          have q' : ((p.B k).name.toList == (p.B i).name.toList) = true := by rw [q]; simp
          have SD : Hid (∀ m, Below w.heap.size w (wr.drewN m)) := fun m => ndrewN hS.out.old m
          clear q
          go_wp2_with fail
          go_quiet (fail)
          go_wp2_with fail
          go_ret
          exact ⟨by rw [HK.out]; rfl, SD.out _⟩
        · have q' := gstr_ne q
          have HP2 : Hid (∀ j, j < k + 1 → (p.B j).name ≠ (p.B i).name) := fun j hj => by
            by_cases e : j = k
            · subst e; exact q
            · exact hP.out j (by omega)
          have SD : Hid (∀ m, SbS p (some ⟨b', 0, none⟩) lk fa fk wa wk (p.B i) w (wr.drewN m)) := fun m => hS.out.below (ndrewN (Below.refl _ _) m)
          clear q
          go_wp2_with fail
          go_quiet (fail)
          go_wp2_with fail
          go_roundw
          case rel => exact ⟨k + 1, by omega, by go_num, SD.out _, HP2⟩
          case measure => simp [intOf]; omega
      · obtain rfl : k = i := by omega
        have KN : Hid (Pg.New p.B k (p.B k).name) := hP.out
        have HB := Lib.hid hS.out.old
        have HT : Hid (Pg.PartsOk (p.B k) k p.bn → dB (Pg.BlockOk p k) = true) := fun q => dB_tt ⟨KF.out, KN.out, q⟩
        have HFF : Hid (¬ Pg.PartsOk (p.B k) k p.bn → dB (Pg.BlockOk p k) = false) := fun q => dB_ff (fun z => q z.2.2)
        obtain ⟨K, hK⟩ : ∃ K, K = (p.B k).kind := ⟨_, rfl⟩
        obtain ⟨A, hA⟩ : ∃ K, K = (p.B k).a := ⟨_, rfl⟩
        obtain ⟨B, hB⟩ : ∃ K, K = (p.B k).b := ⟨_, rfl⟩
        have HPO : Hid (Pg.PartsOk (p.B k) k p.bn ↔ ((K = 1 ∧ A = 0 ∧ B = 0) ∨ ((K = 2 ∨ K = 3 ∨ K = 6) ∧ (0 ≤ A ∧ A < k) ∧ (0 ≤ B ∧ B < k)) ∨ (K = 4 ∧ (0 ≤ A ∧ A < k) ∧ B = 0) ∨ (K = 5 ∧ (0 ≤ A ∧ A < p.bn) ∧ B = 0) ∨ (K = 7 ∧ (0 ≤ A ∧ A < k) ∧ 1 ≤ B ∧ B ≤ 100))) := by
          show _ ↔ _
          rw [hK, hA, hB]; rfl
        rw [← hK] at y0
        rw [← hA] at y2
        rw [← hB] at y3
        clear hS hP hK hA hB
        by_cases k1 : K = 1
        · have u1 : (K == 1) = true := by simp; omega
          have u2 : (K == 2) = false := by simp; omega
          have u3 : (K == 3) = false := by simp; omega
          have u4 : (K == 4) = false := by simp; omega
          have u5 : (K == 5) = false := by simp; omega
          have u6 : (K == 6) = false := by simp; omega
          have u7 : (K == 7) = false := by simp; omega
          by_cases g2 : A = 0
          · have rA : (A == 0) = true := by simp; omega
            by_cases g1 : B = 0
            · have rB : (B == 0) = true := by simp; omega
              have HK : Hid (dB (Pg.BlockOk p k) = true) := HT.out (HPO.out.2 (by omega))
              clear HT HFF HPO
              go_wp2_with fail
              go_ret
              exact ⟨by rw [HK.out]; rfl, HB.out⟩
            · have rB : (B == 0) = false := by simp; omega
              have HK : Hid (dB (Pg.BlockOk p k) = false) := HFF.out (fun z => by have := HPO.out.1 z; omega)
              clear HT HFF HPO
              go_wp2_with fail
              go_ret
              exact ⟨by rw [HK.out]; rfl, HB.out⟩
          · have rA : (A == 0) = false := by simp; omega
            have HK : Hid (dB (Pg.BlockOk p k) = false) := HFF.out (fun z => by have := HPO.out.1 z; omega)
            clear HT HFF HPO
            go_wp2_with fail
            go_ret
            exact ⟨by rw [HK.out]; rfl, HB.out⟩
        · have u1 : (K == 1) = false := by simp; omega
          by_cases k2 : K = 2
          · have u2 : (K == 2) = true := by simp; omega
            have u3 : (K == 3) = false := by simp; omega
            have u4 : (K == 4) = false := by simp; omega
            have u5 : (K == 5) = false := by simp; omega
            have u6 : (K == 6) = false := by simp; omega
            have u7 : (K == 7) = false := by simp; omega
            by_cases g4 : 0 ≤ A
            · by_cases g3 : A < (k : Int)
              · by_cases g2 : 0 ≤ B
                · by_cases g1 : B < (k : Int)
                  · have HK : Hid (dB (Pg.BlockOk p k) = true) := HT.out (HPO.out.2 (by omega))
                    clear HT HFF HPO
                    go_wp2_with fail
                    go_ret
                    exact ⟨by rw [HK.out]; rfl, HB.out⟩
                  · have HK : Hid (dB (Pg.BlockOk p k) = false) := HFF.out (fun z => by have := HPO.out.1 z; omega)
                    clear HT HFF HPO
                    go_wp2_with fail
                    go_ret
                    exact ⟨by rw [HK.out]; rfl, HB.out⟩
                · have HK : Hid (dB (Pg.BlockOk p k) = false) := HFF.out (fun z => by have := HPO.out.1 z; omega)
                  clear HT HFF HPO
                  go_wp2_with fail
                  go_ret
                  exact ⟨by rw [HK.out]; rfl, HB.out⟩
              · have HK : Hid (dB (Pg.BlockOk p k) = false) := HFF.out (fun z => by have := HPO.out.1 z; omega)
                clear HT HFF HPO
                go_wp2_with fail
                go_ret
                exact ⟨by rw [HK.out]; rfl, HB.out⟩
            · have HK : Hid (dB (Pg.BlockOk p k) = false) := HFF.out (fun z => by have := HPO.out.1 z; omega)
              clear HT HFF HPO
              go_wp2_with fail
              go_ret
              exact ⟨by rw [HK.out]; rfl, HB.out⟩
          · have u2 : (K == 2) = false := by simp; omega
            by_cases k3 : K = 3
            · have u3 : (K == 3) = true := by simp; omega
              have u4 : (K == 4) = false := by simp; omega
              have u5 : (K == 5) = false := by simp; omega
              have u6 : (K == 6) = false := by simp; omega
              have u7 : (K == 7) = false := by simp; omega
              by_cases g4 : 0 ≤ A
              · by_cases g3 : A < (k : Int)
                · by_cases g2 : 0 ≤ B
                  · by_cases g1 : B < (k : Int)
                    · have HK : Hid (dB (Pg.BlockOk p k) = true) := HT.out (HPO.out.2 (by omega))
                      clear HT HFF HPO
                      go_wp2_with fail
                      go_ret
                      exact ⟨by rw [HK.out]; rfl, HB.out⟩
                    · have HK : Hid (dB (Pg.BlockOk p k) = false) := HFF.out (fun z => by have := HPO.out.1 z; omega)
                      clear HT HFF HPO
                      go_wp2_with fail
                      go_ret
                      exact ⟨by rw [HK.out]; rfl, HB.out⟩
                  · have HK : Hid (dB (Pg.BlockOk p k) = false) := HFF.out (fun z => by have := HPO.out.1 z; omega)
                    clear HT HFF HPO
                    go_wp2_with fail
                    go_ret
                    exact ⟨by rw [HK.out]; rfl, HB.out⟩
                · have HK : Hid (dB (Pg.BlockOk p k) = false) := HFF.out (fun z => by have := HPO.out.1 z; omega)
                  clear HT HFF HPO
                  go_wp2_with fail
                  go_ret
                  exact ⟨by rw [HK.out]; rfl, HB.out⟩
              · have HK : Hid (dB (Pg.BlockOk p k) = false) := HFF.out (fun z => by have := HPO.out.1 z; omega)
                clear HT HFF HPO
                go_wp2_with fail
                go_ret
                exact ⟨by rw [HK.out]; rfl, HB.out⟩
            · have u3 : (K == 3) = false := by simp; omega
              by_cases k4 : K = 4
              · have u4 : (K == 4) = true := by simp; omega
                have u5 : (K == 5) = false := by simp; omega
                have u6 : (K == 6) = false := by simp; omega
                have u7 : (K == 7) = false := by simp; omega
                by_cases g3 : 0 ≤ A
                · by_cases g2 : A < (k : Int)
                  · by_cases g1 : B = 0
                    · have rB : (B == 0) = true := by simp; omega
                      have HK : Hid (dB (Pg.BlockOk p k) = true) := HT.out (HPO.out.2 (by omega))
                      clear HT HFF HPO
                      go_wp2_with fail
                      go_ret
                      exact ⟨by rw [HK.out]; rfl, HB.out⟩
                    · have rB : (B == 0) = false := by simp; omega
                      have HK : Hid (dB (Pg.BlockOk p k) = false) := HFF.out (fun z => by have := HPO.out.1 z; omega)
                      clear HT HFF HPO
                      go_wp2_with fail
                      go_ret
                      exact ⟨by rw [HK.out]; rfl, HB.out⟩
                  · have HK : Hid (dB (Pg.BlockOk p k) = false) := HFF.out (fun z => by have := HPO.out.1 z; omega)
                    clear HT HFF HPO
                    go_wp2_with fail
                    go_ret
                    exact ⟨by rw [HK.out]; rfl, HB.out⟩
                · have HK : Hid (dB (Pg.BlockOk p k) = false) := HFF.out (fun z => by have := HPO.out.1 z; omega)
                  clear HT HFF HPO
                  go_wp2_with fail
                  go_ret
                  exact ⟨by rw [HK.out]; rfl, HB.out⟩
              · have u4 : (K == 4) = false := by simp; omega
                by_cases k5 : K = 5
                · have u5 : (K == 5) = true := by simp; omega
                  have u6 : (K == 6) = false := by simp; omega
                  have u7 : (K == 7) = false := by simp; omega
                  by_cases g3 : 0 ≤ A
                  · by_cases g2 : A < (p.bn : Int)
                    · by_cases g1 : B = 0
                      · have rB : (B == 0) = true := by simp; omega
                        have HK : Hid (dB (Pg.BlockOk p k) = true) := HT.out (HPO.out.2 (by omega))
                        clear HT HFF HPO
                        go_wp2_with fail
                        go_ret
                        exact ⟨by rw [HK.out]; rfl, HB.out⟩
                      · have rB : (B == 0) = false := by simp; omega
                        have HK : Hid (dB (Pg.BlockOk p k) = false) := HFF.out (fun z => by have := HPO.out.1 z; omega)
                        clear HT HFF HPO
                        go_wp2_with fail
                        go_ret
                        exact ⟨by rw [HK.out]; rfl, HB.out⟩
                    · have HK : Hid (dB (Pg.BlockOk p k) = false) := HFF.out (fun z => by have := HPO.out.1 z; omega)
                      clear HT HFF HPO
                      go_wp2_with fail
                      go_ret
                      exact ⟨by rw [HK.out]; rfl, HB.out⟩
                  · have HK : Hid (dB (Pg.BlockOk p k) = false) := HFF.out (fun z => by have := HPO.out.1 z; omega)
                    clear HT HFF HPO
                    go_wp2_with fail
                    go_ret
                    exact ⟨by rw [HK.out]; rfl, HB.out⟩
                · have u5 : (K == 5) = false := by simp; omega
                  by_cases k6 : K = 6
                  · have u6 : (K == 6) = true := by simp; omega
                    have u7 : (K == 7) = false := by simp; omega
                    by_cases g4 : 0 ≤ A
                    · by_cases g3 : A < (k : Int)
                      · by_cases g2 : 0 ≤ B
                        · by_cases g1 : B < (k : Int)
                          · have HK : Hid (dB (Pg.BlockOk p k) = true) := HT.out (HPO.out.2 (by omega))
                            clear HT HFF HPO
                            go_wp2_with fail
                            go_ret
                            exact ⟨by rw [HK.out]; rfl, HB.out⟩
                          · have HK : Hid (dB (Pg.BlockOk p k) = false) := HFF.out (fun z => by have := HPO.out.1 z; omega)
                            clear HT HFF HPO
                            go_wp2_with fail
                            go_ret
                            exact ⟨by rw [HK.out]; rfl, HB.out⟩
                        · have HK : Hid (dB (Pg.BlockOk p k) = false) := HFF.out (fun z => by have := HPO.out.1 z; omega)
                          clear HT HFF HPO
                          go_wp2_with fail
                          go_ret
                          exact ⟨by rw [HK.out]; rfl, HB.out⟩
                      · have HK : Hid (dB (Pg.BlockOk p k) = false) := HFF.out (fun z => by have := HPO.out.1 z; omega)
                        clear HT HFF HPO
                        go_wp2_with fail
                        go_ret
                        exact ⟨by rw [HK.out]; rfl, HB.out⟩
                    · have HK : Hid (dB (Pg.BlockOk p k) = false) := HFF.out (fun z => by have := HPO.out.1 z; omega)
                      clear HT HFF HPO
                      go_wp2_with fail
                      go_ret
                      exact ⟨by rw [HK.out]; rfl, HB.out⟩
                  · have u6 : (K == 6) = false := by simp; omega
                    by_cases k7 : K = 7
                    · have u7 : (K == 7) = true := by simp; omega
                      by_cases g4 : 0 ≤ A
                      · by_cases g3 : A < (k : Int)
                        · by_cases g2 : 1 ≤ B
                          · by_cases g1 : B ≤ 100
                            · have HK : Hid (dB (Pg.BlockOk p k) = true) := HT.out (HPO.out.2 (by omega))
                              clear HT HFF HPO
                              go_wp2_with fail
                              go_ret
                              exact ⟨by rw [HK.out]; rfl, HB.out⟩
                            · have HK : Hid (dB (Pg.BlockOk p k) = false) := HFF.out (fun z => by have := HPO.out.1 z; omega)
                              clear HT HFF HPO
                              go_wp2_with fail
                              go_ret
                              exact ⟨by rw [HK.out]; rfl, HB.out⟩
                          · have HK : Hid (dB (Pg.BlockOk p k) = false) := HFF.out (fun z => by have := HPO.out.1 z; omega)
                            clear HT HFF HPO
                            go_wp2_with fail
                            go_ret
                            exact ⟨by rw [HK.out]; rfl, HB.out⟩
                        · have HK : Hid (dB (Pg.BlockOk p k) = false) := HFF.out (fun z => by have := HPO.out.1 z; omega)
                          clear HT HFF HPO
                          go_wp2_with fail
                          go_ret
                          exact ⟨by rw [HK.out]; rfl, HB.out⟩
                      · have HK : Hid (dB (Pg.BlockOk p k) = false) := HFF.out (fun z => by have := HPO.out.1 z; omega)
                        clear HT HFF HPO
                        go_wp2_with fail
                        go_ret
                        exact ⟨by rw [HK.out]; rfl, HB.out⟩
                    · have u7 : (K == 7) = false := by simp; omega
                      have HK : Hid (dB (Pg.BlockOk p k) = false) := HFF.out (fun z => by have := HPO.out.1 z; omega)
                      clear HT HFF HPO
                      go_wp2_with fail
                      go_ret
                      exact ⟨by rw [HK.out]; rfl, HB.out⟩
  · rw [dB_ff kf]
    have HK : Hid (dB (Pg.BlockOk p i) = false) := dB_ff (fun q => kf q.1)
    clear kf
    go_wp2_with fail
    go_ret
    exact ⟨by rw [HK.out]; rfl, S1.out.old⟩
/-- What lasts in the model's test. -/
structure SpB (p : Pg.Prog) (la : Option Addr) (lk : Nat) (fa : Option Addr) (fk : Nat) (wa : Option Addr) (wk : Nat) (w W : World) : Prop where
  box : W.rowIs w.heap.size 27 3 (rowN (pgL p la lk fa fk wa wk))
  old : Below w.heap.size w W
theorem SpB.below {p : Pg.Prog} {la : Option Addr} {lk : Nat} {fa : Option Addr} {fk : Nat} {wa : Option Addr} {wk : Nat} {w W W' : World} (h : SpB p la lk fa fk wa wk w W) (hb : Below W.heap.size W W') : SpB p la lk fa fk wa wk w W' := ⟨nrow_below h.box hb, h.old.trans (hb.mono h.old.size)⟩
set_option maxRecDepth 100000 in
set_option maxHeartbeats 8000000 in
theorem specPRight_any (p : Pg.Prog) (la : Option Addr) (lk : Nat) (fa : Option Addr) (fk : Nat) (wa : Option Addr) (wk : Nat) (w : World) (h : PgAt p la fa wa w) (hs : PgSmall p) :
    Calls Tryz.prog 15 #[pgV p la lk fa fk wa wk] w fun e w' => e = .returned (.bool (dB (Pg.Right p))) ∧ Below w.heap.size w w' := by
  obtain ⟨W, hW⟩ : ∃ W, W = w.alloc (.cells #[.slice la p.bn lk, .slice fa p.on fk, .slice wa p.nn wk] 27) := ⟨_, rfl⟩
  have S0 : SpB p la lk fa fk wa wk w W := by rw [hW]; exact ⟨rowN_alloc w _ _, nbel_alloc _ _⟩
  have H := Lib.hid h
  have HS := Lib.hid hs
  have hb1 : p.bn ≤ 1048576 := hs.1.1
  have hb2 : p.nn ≤ 1048576 := hs.2.2
  by_cases k1 : p.bn ≤ 100
  · have d1 : ¬ (100 : Int) < (p.bn : Int) := by omega
    have HW := Lib.hid hW
    have HS0 := Lib.hid S0
    clear h hs hW S0
    go_enter Tryz.func15, Tryz.ntmps15
    go_wp2_with fail
    rw [← HW.out]
    refine (srising_any fa p.on fk p.O p.bn _ (H.out.f.below HS0.out.old) HS.out.2.1 hb1).mono ?_
    rintro e w1 ⟨rfl, hb⟩
    have S1 := Lib.hid (HS0.out.below hb)
    clear hb HS0
    by_cases k2 : Pl.Rising p.on p.O p.bn
    · rw [dB_tt k2]
      have K2 := Lib.hid k2
      clear k2
      obtain ⟨⟨x0, x1, x2⟩, _⟩ := rowN3 S1.out.box
      by_cases k3 : p.nn ≤ 100
      · have d3 : ¬ (100 : Int) < (p.nn : Int) := by omega
        go_wp2_with fail
        clear x0 x1 x2
        go_loopw [3] (fun iv wr => ∃ (i : Nat), i ≤ p.bn ∧ iv = .int .i64 i ∧ Hid (SpB p la lk fa fk wa wk w wr) ∧ Hid (∀ j, j < i → Pg.BlockOk p j)) (fun iv _ => p.bn - (intOf iv).toNat)
        case atStart => exact ⟨0, Nat.zero_le _, rfl, S1, fun j hj => absurd hj (Nat.not_lt_zero _)⟩
        case round =>
          obtain ⟨i, hi, rfl, hS, hP⟩ := hrel
          clear S1
          obtain ⟨⟨x0, x1, x2⟩, _⟩ := rowN3 hS.out.box
          by_cases hlt : i < p.bn
          · have hltz : (i : Int) < (p.bn : Int) := by omega
            go_wp2_with fail
            refine (sBlock_any p la lk fa fk wa wk i _ (H.out.l.below hS.out.old) HS.out.1.2 hb1 hlt).mono ?_
            rintro e w2 ⟨rfl, hb⟩
            have S2 := Lib.hid (hS.out.below hb)
            clear hb hS x0 x1 x2
            by_cases k4 : Pg.BlockOk p i
            · rw [dB_tt k4]
              have HP2 : Hid (∀ j, j < i + 1 → Pg.BlockOk p j) := fun j hj => by
                by_cases e : j = i
                · subst e; exact k4
                · exact hP.out j (by omega)
              clear k4 hP
              go_wp2_with fail
              go_roundw
              case rel => exact ⟨i + 1, by omega, by go_num, S2, HP2⟩
              case measure => simp [intOf]; omega
            · rw [dB_ff k4]
              have HK : Hid (dB (Pg.Right p) = false) := dB_ff (fun q => k4 (q.b i hlt))
              clear k4
              go_wp2_with fail
              go_ret
              exact ⟨by rw [HK.out]; rfl, S2.out.old⟩
          · have HBK : Hid (∀ j, j < p.bn → Pg.BlockOk p j) := fun j hj => hP.out j (by omega)
            clear hP
            go_wp2_with fail
            clear x0 x1 x2
            go_loopw [4] (fun iv wr => ∃ (j : Nat), j ≤ p.nn ∧ iv = .int .i64 j ∧ Hid (SpB p la lk fa fk wa wk w wr) ∧ Hid (∀ q, q < j → Pg.NevOk p q)) (fun iv _ => p.nn - (intOf iv).toNat)
            case atStart => exact ⟨0, Nat.zero_le _, rfl, hS, fun j hj => absurd hj (Nat.not_lt_zero _)⟩
            case round =>
              obtain ⟨j, hj, rfl, hS2, hP⟩ := hrel
              clear hS
              obtain ⟨⟨x0, x1, x2⟩, _⟩ := rowN3 hS2.out.box
              have xl := hS2.out.box.lt
              by_cases hlt2 : j < p.nn
              · have hltz2 : (j : Int) < (p.nn : Int) := by omega
                obtain ⟨b, eb, c0, c1⟩ := (H.out.w.below hS2.out.old).at2 hlt2
                subst eb
                have hbl : b < wr.heap.size := World.block_lt_of_cell? _ _ c0
                obtain ⟨A, hA⟩ : ∃ K, K = p.N (j * 2) := ⟨_, rfl⟩
                obtain ⟨B, hB⟩ : ∃ K, K = p.N (j * 2 + 1) := ⟨_, rfl⟩
                rw [← hA] at c0
                rw [← hB] at c1
                have HAB := Lib.hid (And.intro hA hB)
                obtain ⟨V, hV⟩ : ∃ V, V = wr.alloc (.cells #[.int .i64 A, .int .i64 B] 36) := ⟨_, rfl⟩
                have S3 : Hid (SpB p la lk fa fk (some ⟨b, 0, none⟩) wk w V) := by
                  show SpB _ _ _ _ _ _ _ _ _
                  rw [hV]; exact hS2.out.below (nbel_alloc _ _)
                have RV : Hid (V.rowIs wr.heap.size 36 2 (rowN [.int .i64 A, .int .i64 B])) := by
                  show World.rowIs _ _ _ _ _
                  rw [hV]; exact rowN_alloc wr _ _
                have HV := Lib.hid hV
                clear hV hA hB
                go_wp2_with fail
                rw [← HV.out]
                refine (gshas_any fa p.on fk p.O A _ (H.out.f.below S3.out.old) HS.out.2.1).mono ?_
                rintro e w3 ⟨rfl, hw3⟩
                rw [hw3]
                clear hw3 w3 x0 x1 x2 c0 c1 hbl xl HV
                obtain ⟨⟨x0, x1, x2⟩, _⟩ := rowN3 S3.out.box
                obtain ⟨⟨y0, y1⟩, _⟩ := rowN2 RV.out
                have xl := S3.out.box.lt
                have yl := RV.out.lt
                by_cases g1 : Pl.Has p.on p.O A
                · rw [dB_tt g1]
                  have G1 := Lib.hid g1
                  clear g1
                  go_wp2_with fail
                  refine (gshas_any fa p.on fk p.O B _ (H.out.f.below S3.out.old) HS.out.2.1).mono ?_
                  rintro e w3 ⟨rfl, hw3⟩
                  rw [hw3]
                  clear hw3 w3
                  by_cases g2 : Pl.Has p.on p.O B
                  · rw [dB_tt g2]
                    have G2 := Lib.hid g2
                    clear g2
                    by_cases g3 : A < B
                    · have g3' : ¬ B ≤ A := by omega
                      by_cases g4 : j = 0
                      · subst g4
                        have HP2 : Hid (∀ q, q < 0 + 1 → Pg.NevOk p q) := fun q hq => by
                          obtain rfl : q = 0 := by omega
                          have := HAB.out
                          exact ⟨by rw [← this.1]; exact G1.out, by rw [← this.2]; exact G2.out, by rw [← this.1, ← this.2]; exact g3, fun h => absurd h (by omega)⟩
                        clear hP
                        go_wp2_with fail
                        go_roundw
                        case rel => exact ⟨1, by omega, by go_num, S3, HP2⟩
                        case measure => simp [intOf]; omega
                      · have g5 : (0 : Int) < (j : Int) := by omega
                        have g6 : ((j : Int) - 1) = ((j - 1 : Nat) : Int) := by omega
                        obtain ⟨b', eb, v0, v1⟩ := (H.out.w.below S3.out.old).at2 (show j - 1 < p.nn by omega)
                        obtain rfl : b' = b := by simpa using eb.symm
                        clear eb
                        have hbl : b' < V.heap.size := World.block_lt_of_cell? _ _ v0
                        obtain ⟨X, hX⟩ : ∃ K, K = p.N ((j - 1) * 2) := ⟨_, rfl⟩
                        obtain ⟨Y, hY⟩ : ∃ K, K = p.N ((j - 1) * 2 + 1) := ⟨_, rfl⟩
                        rw [← hX] at v0
                        rw [← hY] at v1
                        have HNV : Hid (Pg.NevOk p j ↔ (X < A ∨ (X = A ∧ Y < B))) := by
                          show _ ↔ _
                          have := HAB.out
                          unfold Pg.NevOk
                          rw [hX, hY, ← this.1, ← this.2]
                          exact ⟨fun q => q.2.2.2 (by omega), fun q => ⟨G1.out, G2.out, g3, fun _ => q⟩⟩
                        have S4 : Hid (SpB p la lk fa fk (some ⟨b', 0, none⟩) wk w (V.alloc (.cells #[.int .i64 X, .int .i64 Y] 36))) := S3.out.below (nbel_alloc _ _)
                        obtain ⟨m, hm⟩ : ∃ m : Nat, m = j - 1 := ⟨_, rfl⟩
                        rw [← hm] at g6 v0 v1
                        have mlt : (m : Int) < (p.nn : Int) := by omega
                        clear hX hY hm
                        have HG3 := Lib.hid g3
                        clear g3
                        by_cases t1 : A < X
                        · have HK : Hid (dB (Pg.Right p) = false) := dB_ff (fun q => by have := HNV.out.1 (q.v j hlt2); omega)
                          go_wp2_with fail
                          go_ret
                          exact ⟨by rw [HK.out]; rfl, S4.out.old⟩
                        · by_cases t2 : A = X
                          · have t2' : (A == X) = true := by simp [t2]
                            by_cases t3 : B ≤ Y
                            · have HK : Hid (dB (Pg.Right p) = false) := dB_ff (fun q => by have := HNV.out.1 (q.v j hlt2); omega)
                              clear t2
                              go_wp2_with fail
                              go_ret
                              exact ⟨by rw [HK.out]; rfl, S4.out.old⟩
                            · have HP2 : Hid (∀ q, q < j + 1 → Pg.NevOk p q) := fun q hq => by
                                by_cases e : q = j
                                · subst e; exact HNV.out.2 (by omega)
                                · exact hP.out q (by omega)
                              clear t2 hP
                              go_wp2_with fail
                              go_roundw
                              case rel => exact ⟨j + 1, by omega, by go_num, S4, HP2⟩
                              case measure => simp [intOf]; omega
                          · have t2' : (A == X) = false := by simp [t2]
                            have HP2 : Hid (∀ q, q < j + 1 → Pg.NevOk p q) := fun q hq => by
                              by_cases e : q = j
                              · subst e; exact HNV.out.2 (by omega)
                              · exact hP.out q (by omega)
                            clear t2 hP
                            go_wp2_with fail
                            go_roundw
                            case rel => exact ⟨j + 1, by omega, by go_num, S4, HP2⟩
                            case measure => simp [intOf]; omega
                    · have g3' : B ≤ A := by omega
                      have HK : Hid (dB (Pg.Right p) = false) := dB_ff (fun q => by have := (q.v j hlt2).2.2.1; have := HAB.out; omega)
                      go_wp2_with fail
                      go_ret
                      exact ⟨by rw [HK.out]; rfl, S3.out.old⟩
                  · rw [dB_ff g2]
                    have HK : Hid (dB (Pg.Right p) = false) := dB_ff (fun q => g2 (by have := HAB.out; rw [this.2]; exact (q.v j hlt2).2.1))
                    clear g2
                    go_wp2_with fail
                    go_ret
                    exact ⟨by rw [HK.out]; rfl, S3.out.old⟩
                · rw [dB_ff g1]
                  have HK : Hid (dB (Pg.Right p) = false) := dB_ff (fun q => g1 (by have := HAB.out; rw [this.1]; exact (q.v j hlt2).1))
                  clear g1
                  go_wp2_with fail
                  go_ret
                  exact ⟨by rw [HK.out]; rfl, S3.out.old⟩
              · have HK : Hid (dB (Pg.Right p) = true) := dB_tt ⟨k1, HBK.out, K2.out, k3, fun q hq => hP.out q (by omega)⟩
                go_wp2_with fail
                go_ret
                exact ⟨by rw [HK.out]; rfl, hS2.out.old⟩
      · have d3 : (100 : Int) < (p.nn : Int) := by omega
        have HK : Hid (dB (Pg.Right p) = false) := dB_ff (fun q => k3 q.m)
        go_wp2_with fail
        go_ret
        exact ⟨by rw [HK.out]; rfl, S1.out.old⟩
    · rw [dB_ff k2]
      have HK : Hid (dB (Pg.Right p) = false) := dB_ff (fun q => k2 q.o)
      clear k2
      obtain ⟨⟨x0, x1, x2⟩, _⟩ := rowN3 S1.out.box
      go_wp2_with fail
      go_ret
      exact ⟨by rw [HK.out]; rfl, S1.out.old⟩
  · have d1 : (100 : Int) < (p.bn : Int) := by omega
    have HK : Hid (dB (Pg.Right p) = false) := dB_ff (fun q => k1 q.n)
    have HB := Lib.hid (nbel_alloc w (.cells #[.slice la p.bn lk, .slice fa p.on fk, .slice wa p.nn wk] 27))
    clear h hs hW S0
    go_enter Tryz.func15, Tryz.ntmps15
    go_wp2_with fail
    go_ret
    exact ⟨by rw [HK.out]; rfl, HB.out⟩
end Go.Proofs.YtogfjomfhenhfaaGreatDoor
