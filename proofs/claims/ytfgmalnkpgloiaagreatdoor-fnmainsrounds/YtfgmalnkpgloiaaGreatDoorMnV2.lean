/-
  What is left over, rounds: the model's walk.
-/
import Derived.Test.YtfgmalnkpgloiaaGreatDoorMnV1
import Derived.Test.YtfgmalnkpgloiaaGreatDoorMnU3
namespace Go.Proofs.YtfgmalnkpgloiaaGreatDoor
open Go.RowKit Go.Deep

theorem smin_any (a b : Int) (w : World) : Calls Tryz.prog 50 #[.int .i64 a, .int .i64 b] w fun e w' => e = .returned (.int .i64 (min a b)) ∧ w' = w := by
  by_cases h : a < b
  · have HE : Hid (min a b = a) := by show _ = _; omega
    go_enter Tryz.func50, Tryz.ntmps50
    go_wp2_with fail
    go_ret
    exact ⟨by rw [HE.out]; rfl, rfl⟩
  · have HE : Hid (min a b = b) := by show _ = _; omega
    go_enter Tryz.func50, Tryz.ntmps50
    go_wp2_with fail
    go_ret
    exact ⟨by rw [HE.out]; rfl, rfl⟩
theorem sum_small {m : Mn.Mains} (hr : Mn.Right m) {f : Nat → Int} (ho : Mn.AllOk m f) {i : Nat} (hi : i < m.ln) : (-50000000000000000 ≤ Mn.sumTo m f (m.L i) (m.LN i) ∧ Mn.sumTo m f (m.L i) (m.LN i) ≤ 50000000000000000) ∧ (0 ≤ Mn.wtTo m f (m.L i) (m.LN i) ∧ Mn.wtTo m f (m.L i) (m.LN i) ≤ 1000000000000) := by
  have h1 := Mn.sum_bd hr ho (m.LN i) (hr.l i hi).num
  have h2 := (hr.l i hi).n2
  have h3 : ((m.LN i : Nat) : Int) ≤ 40 := by omega
  omega
set_option maxRecDepth 100000 in
set_option maxHeartbeats 8000000 in
theorem srest_any (m : Mn.Mains) (pa : Option Addr) (pk : Nat) (la : Option Addr) (lk : Nat) (wa : Option Addr) (wk : Nat) (fa : Option Addr) (fc : Nat) (f : Nat → Int) (w : World) (h : MnAt m pa la wa w) (hf : IsAt fa m.pn f w) (hr : Mn.Right m) (ho : Mn.AllOk m f) :
    Calls Tryz.prog 33 #[mnV m pa pk la lk wa wk, .slice fa m.pn fc] w fun e w' => e = .returned (.int .i64 (Mn.rest m f)) ∧ Below w.heap.size w w' := by
  have ST : Hid (SwS m pa pk la lk wa wk fa f w (w.alloc (.cells #[.int .i64 m.nodes, .int .i64 m.head, .slice pa m.pn pk, .slice la m.ln lk, .slice wa m.wn wk] 27))) := ⟨MnS.new 27 (pk := pk) (lk := lk) (wk := wk) h, hf.below (nbel_alloc _ _)⟩
  have hln := hr.ln
  have HR := Lib.hid hr
  have HO := Lib.hid ho
  clear h hf hr ho
  go_enter Tryz.func33, Tryz.ntmps33
  go_wp2_with fail
  go_loopw [5, 6] (fun mv iv wr => ∃ (i : Nat), i ≤ m.ln ∧ mv = .int .i64 (Mn.restTo m f i) ∧ iv = .int .i64 i ∧ Hid (SwS m pa pk la lk wa wk fa f w wr)) (fun _ iv _ => m.ln - (intOf iv).toNat)
  case atStart => exact ⟨0, Nat.zero_le _, rfl, rfl, ST⟩
  case round =>
    obtain ⟨i, hi, rfl, rfl, SX⟩ := hrel
    clear ST
    obtain ⟨⟨r0, r1, r2, r3, r4⟩, _⟩ := rowN5 SX.out.s.row
    by_cases hlt : i < m.ln
    · have hltz : (i : Int) < (m.ln : Int) := by omega
      obtain ⟨lb, e, xa, xc, dl, kx⟩ := SX.out.s.at_.l.one hlt
      subst e
      have DL := Lib.hid dl
      have KX := Lib.hid kx
      have HSS := Lib.hid (sum_small HR.out HO.out hlt)
      clear dl kx
      go_wp2_with fail
      clear r0 r1 r2 r3 r4
      refine wp_region_held_drew (S := fun V => Below wr.heap.size wr V) (by kernel_rfl) (Below.refl _ _).drew (fun hHeld => ?_)
      obtain ⟨Z, hZ⟩ : ∃ Z, Z = wr.drew := ⟨_, rfl⟩
      rw [← hZ] at hHeld ⊢
      clear hZ
      refine take_do (i := 0) (v := (mnV m pa pk (some ⟨lb, 0, none⟩) lk wa wk)) rfl (by kernel_rfl) (by kernel_rfl) (by kernel_rfl) (fun _ _ _ h => h) (by rfl) ?_ (by assumption) ?_
      · intro w hSw
        obtain ⟨⟨r0, r1, r2, r3, r4⟩, _⟩ := rowN5 (nrow_below SX.out.s.row hSw)
        go_simp
      simp only [Act.put, List.setIfInBounds_toArray, List.set_cons_zero, List.set_cons_succ]
      refine take_do (i := 1) (v := (.slice fa m.pn fc)) rfl (by kernel_rfl) (by kernel_rfl) (by kernel_rfl) (fun _ _ _ h => h) (by rfl) ?_ (by assumption) ?_
      · intro w hSw
        skip
        go_simp
      simp only [Act.put, List.setIfInBounds_toArray, List.set_cons_zero, List.set_cons_succ]
      refine take_do (i := 2) (v := (.pointer (some ⟨w.heap.size, 3, none⟩))) rfl (by kernel_rfl) (by kernel_rfl) (by kernel_rfl) (fun _ _ _ h => h) (by rfl) ?_ (by assumption) ?_
      · intro w hSw
        skip
        go_simp
      simp only [Act.put, List.setIfInBounds_toArray, List.set_cons_zero, List.set_cons_succ]
      refine take_do (i := 3) (v := (.slice (some ⟨lb, 0, none⟩) m.ln lk)) rfl (by kernel_rfl) (by kernel_rfl) (by kernel_rfl) (fun _ _ _ h => h) (by rfl) ?_ (by assumption) ?_
      · intro w hSw
        obtain ⟨⟨r0, r1, r2, r3, r4⟩, _⟩ := rowN5 (nrow_below SX.out.s.row hSw)
        go_simp
      simp only [Act.put, List.setIfInBounds_toArray, List.set_cons_zero, List.set_cons_succ]
      refine take_do (i := 4) (v := (.int .i64 i)) rfl (by kernel_rfl) (by kernel_rfl) (by kernel_rfl) (fun _ _ _ h => h) (by rfl) ?_ (by assumption) ?_
      · intro w hSw
        skip
        go_simp
      simp only [Act.put, List.setIfInBounds_toArray, List.set_cons_zero, List.set_cons_succ]
      refine take_do (i := 5) (v := (.pointer (some ⟨lb, i, none⟩))) rfl (by kernel_rfl) (by kernel_rfl) (by kernel_rfl) (fun _ _ _ h => h) (by rfl) ?_ (by assumption) ?_
      · intro w hSw
        skip
        go_simp
      simp only [Act.put, List.setIfInBounds_toArray, List.set_cons_zero, List.set_cons_succ]
      refine take_do (i := 6) (v := (.slice xa (m.LN i) xc)) rfl (by kernel_rfl) (by kernel_rfl) (by kernel_rfl) (fun _ _ _ h => h) (by rfl) ?_ (by assumption) ?_
      · intro w hSw
        have dl := (hSw.cell (World.block_lt_of_cell? _ _ DL.out)).trans DL.out
        go_simp
      simp only [Act.put, List.setIfInBounds_toArray, List.set_cons_zero, List.set_cons_succ]
      refine take_call (i := 7) rfl (by kernel_rfl) (fun K2 hK => ?_)
      go_simp
      refine (ssum_any m pa pk _ lk wa wk fa fc f xa (m.LN i) xc (m.L i) _ (SX.out.s.at_.below hHeld) (SX.out.f.below hHeld) (KX.out.below hHeld) HR.out HO.out (HR.out.l i hlt).num (HR.out.l i hlt).n2).mono ?_
      rintro e w3 ⟨rfl, hb⟩
      go_wp2_with fail
      refine hK.out _ _ (hHeld.trans (hb.mono hHeld.size)) (fun hHeld2 => ?_)
      clear hK hHeld hb
      have hHeld := hHeld2
      clear hHeld2
      obtain ⟨SU, hSU⟩ : ∃ SU, SU = Mn.sumTo m f (m.L i) (m.LN i) := ⟨_, rfl⟩
      obtain ⟨WT, hWT⟩ : ∃ WT, WT = Mn.wtTo m f (m.L i) (m.LN i) := ⟨_, rfl⟩
      rw [← hSU, ← hWT]
      have HSU := Lib.hid hSU
      clear hSU hWT
      refine take_do (i := 8) (v := (.tuple #[.int .i64 SU, .int .i64 WT])) rfl (by kernel_rfl) (by kernel_rfl) (by kernel_rfl) (fun _ _ _ h => h) (by rfl) ?_ (by assumption) ?_
      · intro w hSw
        skip
        go_simp
      simp only [Act.put, List.setIfInBounds_toArray, List.set_cons_zero, List.set_cons_succ]
      refine take_do (i := 9) (v := (.int .i64 SU)) rfl (by kernel_rfl) (by kernel_rfl) (by kernel_rfl) (fun _ _ _ h => h) (by rfl) ?_ (by assumption) ?_
      · intro w hSw
        skip
        go_simp
      simp only [Act.put, List.setIfInBounds_toArray, List.set_cons_zero, List.set_cons_succ]
      refine take_do (i := 10) (v := (.int .i64 WT)) rfl (by kernel_rfl) (by kernel_rfl) (by kernel_rfl) (fun _ _ _ h => h) (by rfl) ?_ (by assumption) ?_
      · intro w hSw
        skip
        go_simp
      simp only [Act.put, List.setIfInBounds_toArray, List.set_cons_zero, List.set_cons_succ]
      refine take_do (i := 11) (v := (.int .i64 SU)) rfl (by kernel_rfl) (by kernel_rfl) (by kernel_rfl) (fun _ _ _ h => h) (by rfl) ?_ (by assumption) ?_
      · intro w hSw
        skip
        go_simp
      simp only [Act.put, List.setIfInBounds_toArray, List.set_cons_zero, List.set_cons_succ]
      refine take_do (i := 12) (v := (.int .i64 WT)) rfl (by kernel_rfl) (by kernel_rfl) (by kernel_rfl) (fun _ _ _ h => h) (by rfl) ?_ (by assumption) ?_
      · intro w hSw
        skip
        go_simp
      simp only [Act.put, List.setIfInBounds_toArray, List.set_cons_zero, List.set_cons_succ]
      refine wpAnyH_done (by kernel_rfl) ?_ _
      have S7 := Lib.hid (SX.out.below hHeld)
      clear hHeld
      have ss : -50000000000000000 ≤ SU ∧ SU ≤ 50000000000000000 := by rw [HSU.out]; exact HSS.out.1
      obtain ⟨ss1, ss2⟩ := ss
      go_wp2_with fail
      refine (specAbs SU _ (by omega) (by omega)).mono ?_
      rintro e w4 ⟨rfl, e4⟩
      subst w4
      go_wp2_with fail
      refine (smax_any _ _ _).mono ?_
      rintro e w5 ⟨rfl, e5⟩
      subst w5
      have HE : Hid (Mn.restTo m f (i + 1) = max (Mn.restTo m f i) (SU.natAbs : Int)) := by show _ = _; simp only [Mn.restTo]; rw [HSU.out]
      obtain ⟨MX, hMX⟩ : ∃ MX, MX = max (Mn.restTo m f i) (SU.natAbs : Int) := ⟨_, rfl⟩
      rw [← hMX] at HE ⊢
      clear hMX
      go_wp2_with fail
      go_roundw
      case rel => exact ⟨i + 1, by omega, by rw [HE.out], by go_num, S7⟩
      case measure => simp [intOf]; omega
    · obtain rfl : i = m.ln := by omega
      go_wp2_with fail
      go_ret
      exact ⟨rfl, SX.out.s.old⟩
end Go.Proofs.YtfgmalnkpgloiaaGreatDoor
