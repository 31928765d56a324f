/-
  Joined: MnLb0, MnLawB.
-/
import Derived.Test.YtfgmalnkpgloiaaGreatDoorMnBgD
import Derived.Test.YtfgmalnkpgloiaaGreatDoorMnBgA
namespace Go.Proofs.YtfgmalnkpgloiaaGreatDoor
open Go Go.RowKit Go.Deep

namespace Mn
theorem tot_bd {f : Nat → Nat} {M : Nat} : ∀ n, (∀ i, i < n → f i ≤ M) → tot f n ≤ n * M
  | 0, _ => by simp [tot]
  | n + 1, h => by
    have h1 := tot_bd n (fun i hi => h i (by omega))
    have h2 := h n (by omega)
    rw [tot, Nat.succ_mul]
    omega
theorem small_of {m : Mains} (h : m.pn ≤ 1000 ∧ m.ln ≤ 1000 ∧ m.wn ≤ 1000 ∧ ∀ i, i < m.ln → m.LN i ≤ 1000) : MnSmall m := by
  obtain ⟨h1, h2, h3, h4⟩ := h
  have h5 := tot_bd m.ln h4
  have h6 : m.ln * 1000 ≤ 1000 * 1000 := Nat.mul_le_mul_right _ h2
  exact ⟨by omega, by omega, by omega, by omega⟩
theorem bal_bd {m : Mains} {f : Nat → Int} (hr : Right m) (ho : AllOk m f) (k : Int) : ∀ i, i ≤ m.pn → -(100000 * (i : Int)) ≤ bal m f k i ∧ bal m f k i ≤ 100000 * (i : Int)
  | 0, _ => by simp [bal]
  | i + 1, h => by
    have h1 := bal_bd hr ho k i (by omega)
    have h2 := okF_bd (hr.p i (by omega)) (ho i (by omega))
    rw [bal]
    unfold co
    split
    · omega
    · split <;> omega
/-- What is solved balances. -/
theorem sv_bal {m : Mains} {R : Int} (hs : Start m 0 0) {k : Nat} (h0 : k ≠ 0) (hk : k < nn m) : bal m (svF m R) k m.pn = m.W k := by
  have hr := (hs.rightOk rfl).1
  unfold svF
  rw [setl_bal hr]
  refine flows_bal hr h0 ?_
  rcases hs.outOk rfl with ⟨i, _, h2, _⟩ | ⟨_, h⟩
  · omega
  · exact h k hk
theorem sv_ok {m : Mains} {R : Int} (hs : Start m 0 0) : AllOk m (svF m R) := setl_ok (hs.rightOk rfl).1 _ _ _ (hs.rightOk rfl).2
end Mn
theorem nosv_ne {m : Mn.Mains} {R c a : Int} (h : NoSv m R c a) : c ≠ 0 := by
  rcases h with ⟨_, h, _⟩ | ⟨_, _, h⟩
  · omega
  · exact h
theorem mo_code (fa : Option Addr) (fn fc : Nat) (ha : Option Addr) (hn hc : Nat) (rest rounds at_ code : Int) (w : World) : (Instr.field 31 (moV fa fn fc ha hn hc rest rounds at_ code) 5).run Tryz.prog w = .ok (.int .i64 code) w := by kernel_rfl
theorem mo_flows (fa : Option Addr) (fn fc : Nat) (ha : Option Addr) (hn hc : Nat) (rest rounds at_ code : Int) (w : World) : (Instr.field 31 (moV fa fn fc ha hn hc rest rounds at_ code) 0).run Tryz.prog w = .ok (.slice fa fn fc) w := by kernel_rfl
/-- What stands in the law: the mains, their lists, the old memory. -/
structure DbS (s3 : Nat) (m : Mn.Mains) (pa : Option Addr) (pk : Nat) (la : Option Addr) (lk : Nat) (wa : Option Addr) (wk : Nat) (w W : World) : Prop where
  row : W.rowIs s3 27 5 (rowN (mnL m pa pk la lk wa wk))
  at_ : MnAt m pa la wa W
  bel : Below w.heap.size w W
theorem DbS.below {s3 : Nat} {m : Mn.Mains} {pa : Option Addr} {pk : Nat} {la : Option Addr} {lk : Nat} {wa : Option Addr} {wk : Nat} {w W W' : World} (h : DbS s3 m pa pk la lk wa wk w W) (hb : Below W.heap.size W W') : DbS s3 m pa pk la lk wa wk w W' :=
  ⟨nrow_below h.row hb, h.at_.below hb, h.bel.trans (hb.mono h.bel.size)⟩
end Go.Proofs.YtfgmalnkpgloiaaGreatDoor
namespace Go.Proofs.YtfgmalnkpgloiaaGreatDoor
open Go Go.RowKit Go.Deep

set_option maxRecDepth 100000 in
set_option maxHeartbeats 16000000 in
theorem mainsBalance_law (w : World) (a : Option Addr) (len cap : Nat) (h : Bytes a len w) (hl : len ≤ 9223372036854775807) (hg : Et w) :
    Calls Tryz.prog 3 #[.slice a len cap] w fun e w' => e = .returned (.bool true) ∧ Below w.heap.size w w' := by
  have H := Lib.hid h
  have HG := Lib.hid hg
  clear h hg
  by_cases hbig : (1048576 : Int) < (len : Int)
  · go_enter Tryz.func3, Tryz.ntmps3
    go_wp2_with fail
    go_ret
    exact ⟨rfl, Below.refl _ _⟩
  go_enter Tryz.func3, Tryz.ntmps3
  go_wp2_with fail
  refine (drawMS_any a len cap _ H.out (by omega)).mono ?_
  rintro e w1 ⟨⟨m, pa, pk, la, lk, wa, wk, rd, rfl, hat, hsz, hrd⟩, hb⟩
  obtain ⟨W3, hW3⟩ : ∃ W, W = w1.alloc (.cells #[.int .i64 m.nodes, .int .i64 m.head, .slice pa m.pn pk, .slice la m.ln lk, .slice wa m.wn wk] 27) := ⟨_, rfl⟩
  obtain ⟨s3, hs3⟩ : ∃ s, s = w1.heap.size := ⟨_, rfl⟩
  have HBY : Hid (Bytes a len W3) := by show Bytes _ _ _; rw [hW3]; exact H.out.below (hb.trans ((nbel_alloc _ _).mono hb.size))
  have HT : Hid (DbS s3 m pa pk la lk wa wk w W3) := by
    show DbS _ _ _ _ _ _ _ _ _ _
    rw [hW3, hs3]
    exact ⟨rowN_alloc w1 _ _, hat.below (nbel_alloc _ _), hb.trans ((nbel_alloc _ _).mono hb.size)⟩
  have HW3 := Lib.hid hW3
  have HS3 := Lib.hid hs3
  have HSM := Lib.hid (Mn.small_of hsz)
  have HSZ := Lib.hid hsz
  have HLEN : Hid (len ≤ 4194304) := by show _ ≤ _; omega
  obtain ⟨hrd0, hrd1⟩ := hrd
  clear hb hat hW3 hs3 hsz H hbig hl
  go_wp2_with fail
  rw [← HW3.out, ← HS3.out]
  clear HW3 HS3
  refine (specSolve_any m pa pk la lk wa wk rd _ HT.out.at_ HSM.out).mono ?_
  rintro e w4 ⟨hE, hb⟩
  replace HT := Lib.hid (HT.out.below hb)
  replace HBY := Lib.hid (HBY.out.below hb)
  clear hb
  rcases hE with ⟨c, ac, hno, rfl⟩ | ⟨x4, c4, p4, d4, hR, hst, rfl, _⟩
  · have hfld := mo_code none 0 0 none 0 0 0 0 ac c
    have hc : (c != 0) = true := by simpa using nosv_ne hno
    clear hno
    go_wp2_with fail
    go_ret
    exact ⟨rfl, HT.out.bel⟩
  have HST := Lib.hid hst
  have HRR := Lib.hid hR
  obtain ⟨F, hF⟩ : ∃ F, F = svF m rd := ⟨_, rfl⟩
  obtain ⟨dn, hdn⟩ : ∃ d, d = svD m rd := ⟨_, rfl⟩
  obtain ⟨rs, hrs⟩ : ∃ r, r = Mn.rest m F := ⟨_, rfl⟩
  obtain ⟨HH, hHH⟩ : ∃ G, G = Mn.heads m F := ⟨_, rfl⟩
  obtain ⟨N, hN⟩ : ∃ N, N = Mn.nn m := ⟨_, rfl⟩
  rw [← hF, ← hdn, ← hrs, ← hN]
  have HF := Lib.hid hF
  have HDN := Lib.hid hdn
  have HRS := Lib.hid hrs
  have HHH := Lib.hid hHH
  have HN := Lib.hid hN
  have hfld := mo_code x4 m.pn c4 p4 N d4 rs dn 0 0
  clear hF hdn hrs hHH hN hst hR
  obtain ⟨⟨o0, o1, o2, o3, o4⟩, _⟩ := rowN5 HT.out.row
  go_wp2_with fail
  clear hfld o0 o1 o2 o3 o4
  refine (implSolve_any m pa pk la lk wa wk rd _ HT.out.at_ (HG.out.below HT.out.bel)).mono ?_
  rintro e w6 ⟨hE, hb⟩
  replace HT := Lib.hid (HT.out.below hb)
  replace HBY := Lib.hid (HBY.out.below hb)
  clear hb
  rcases hE with ⟨c, ac, hno, rfl⟩ | ⟨xa, xc, ya, yc, _, _, rfl, hown⟩
  · exact (noSv_not hno HRR.out HST.out).elim
  rw [← HF.out] at hown ⊢
  rw [← HDN.out, ← HRS.out, ← HN.out]
  rw [← HHH.out, ← HN.out] at hown
  obtain ⟨W7, hW7⟩ : ∃ W, W = w6.alloc (.cells (moA xa m.pn xc ya N yc rs dn 0 0) 31) := ⟨_, rfl⟩
  obtain ⟨s5, hs5⟩ : ∃ s, s = w6.heap.size := ⟨_, rfl⟩
  have HR : Hid (W7.rowIs s5 31 6 (rowN (moL xa m.pn xc ya N yc rs dn 0 0))) := by show World.rowIs _ _ _ _ _; rw [hW7, hs5]; exact rowN_alloc w6 _ _
  have HO : Hid (IsAt xa m.pn F W7 ∧ IsAt ya N HH W7 ∧ (xa = none → xc = 0)) := by
    show _ ∧ _
    rw [hW7]
    refine ⟨hown.f.at_.below (nbel_alloc _ _), hown.g.at_.below (nbel_alloc _ _), fun e => ?_⟩
    rcases hown.f with ⟨_, _, h⟩ | ⟨g, h, _⟩
    · exact h
    · rw [e] at h; cases h
  replace HT : Hid (DbS s3 m pa pk la lk wa wk w W7) := by show DbS _ _ _ _ _ _ _ _ _ _; rw [hW7]; exact HT.out.below (nbel_alloc _ _)
  replace HBY : Hid (Bytes a len W7) := by show Bytes _ _ _; rw [hW7]; exact HBY.out.below (nbel_alloc _ _)
  have HOK : Hid (Mn.AllOk m F) := by show Mn.AllOk _ _; rw [HF.out]; exact Mn.sv_ok HST.out
  have HRI := Lib.hid (HST.out.rightOk rfl).1
  have HNN : Hid (m.nodes = (N : Int) ∧ 1 ≤ N ∧ N ≤ 12 ∧ m.wn = N) := by show _ ∧ _; rw [HN.out]; exact HRI.out.nn
  have HW7 := Lib.hid hW7
  have HS5 := Lib.hid hs5
  clear hW7 hs5 hown
  obtain ⟨⟨o0, o1, o2, o3, o4⟩, _⟩ := rowN5 HT.out.row
  obtain ⟨⟨p0, p1, p2, p3, p4, p5⟩, _⟩ := rowN6 HR.out
  go_upto_region 7 with fail
  rw [← HW7.out, ← HS5.out]
  clear HW7 HS5 o0 o1 o2 o3 o4 p0 p1 p2 p3 p4 p5
  refine wp_region_held_drew (S := fun V => Below W7.heap.size W7 V) (by kernel_rfl) (Below.refl _ _).drew (fun hHeld => ?_)
  obtain ⟨Z, hZ⟩ : ∃ Z, Z = W7.drew := ⟨_, rfl⟩
  rw [← hZ] at hHeld ⊢
  clear hZ
  refine take_do (i := 0) (v := (.pointer (some ⟨s5, 5, none⟩))) rfl (by kernel_rfl) (by kernel_rfl) (by kernel_rfl) (fun _ _ _ h => h) (by rfl) ?_ (by assumption) ?_
  · intro w hSw
    skip
    go_simp
  simp only [Act.put, List.setIfInBounds_toArray, List.set_cons_zero, List.set_cons_succ]
  refine take_do (i := 1) (v := (.int .i64 (0))) rfl (by kernel_rfl) (by kernel_rfl) (by kernel_rfl) (fun _ _ _ h => h) (by rfl) ?_ (by assumption) ?_
  · intro w hSw
    obtain ⟨⟨q0, q1, q2, q3, q4, q5⟩, _⟩ := rowN6 (nrow_below HR.out hSw)
    go_simp
  simp only [Act.put, List.setIfInBounds_toArray, List.set_cons_zero, List.set_cons_succ]
  refine take_do (i := 2) (v := (.bool false)) rfl (by kernel_rfl) (by kernel_rfl) (by kernel_rfl) (fun _ _ _ h => h) (by rfl) ?_ (by assumption) ?_
  · intro w hSw
    skip
    go_simp
  simp only [Act.put, List.setIfInBounds_toArray, List.set_cons_zero, List.set_cons_succ]
  refine take_do (i := 3) (v := (.bool false)) rfl (by kernel_rfl) (by kernel_rfl) (by kernel_rfl) (fun _ _ _ h => h) (by rfl) ?_ (by assumption) ?_
  · intro w hSw
    skip
    go_simp
  simp only [Act.put, List.setIfInBounds_toArray, List.set_cons_zero, List.set_cons_succ]
  refine take_do (i := 4) (v := (.pointer (some ⟨s5, 0, none⟩))) rfl (by kernel_rfl) (by kernel_rfl) (by kernel_rfl) (fun _ _ _ h => h) (by rfl) ?_ (by assumption) ?_
  · intro w hSw
    skip
    go_simp
  simp only [Act.put, List.setIfInBounds_toArray, List.set_cons_zero, List.set_cons_succ]
  refine take_do (i := 5) (v := (.slice xa m.pn xc)) rfl (by kernel_rfl) (by kernel_rfl) (by kernel_rfl) (fun _ _ _ h => h) (by rfl) ?_ (by assumption) ?_
  · intro w hSw
    obtain ⟨⟨q0, q1, q2, q3, q4, q5⟩, _⟩ := rowN6 (nrow_below HR.out hSw)
    go_simp
  simp only [Act.put, List.setIfInBounds_toArray, List.set_cons_zero, List.set_cons_succ]
  refine take_do (i := 6) (v := (.int .i64 (m.pn))) rfl (by kernel_rfl) (by kernel_rfl) (by kernel_rfl) (fun _ _ _ h => h) (by rfl) ?_ (by assumption) ?_
  · intro w hSw
    skip
    go_simp
  simp only [Act.put, List.setIfInBounds_toArray, List.set_cons_zero, List.set_cons_succ]
  refine take_do (i := 7) (v := (.pointer (some ⟨s3, 2, none⟩))) rfl (by kernel_rfl) (by kernel_rfl) (by kernel_rfl) (fun _ _ _ h => h) (by rfl) ?_ (by assumption) ?_
  · intro w hSw
    skip
    go_simp
  simp only [Act.put, List.setIfInBounds_toArray, List.set_cons_zero, List.set_cons_succ]
  refine take_do (i := 8) (v := (.slice pa m.pn pk)) rfl (by kernel_rfl) (by kernel_rfl) (by kernel_rfl) (fun _ _ _ h => h) (by rfl) ?_ (by assumption) ?_
  · intro w hSw
    obtain ⟨⟨q0, q1, q2, q3, q4⟩, _⟩ := rowN5 (nrow_below HT.out.row hSw)
    go_simp
  simp only [Act.put, List.setIfInBounds_toArray, List.set_cons_zero, List.set_cons_succ]
  refine take_do (i := 9) (v := (.int .i64 (m.pn))) rfl (by kernel_rfl) (by kernel_rfl) (by kernel_rfl) (fun _ _ _ h => h) (by rfl) ?_ (by assumption) ?_
  · intro w hSw
    skip
    go_simp
  simp only [Act.put, List.setIfInBounds_toArray, List.set_cons_zero, List.set_cons_succ]
  refine take_do (i := 10) (v := (.bool false)) rfl (by kernel_rfl) (by kernel_rfl) (by kernel_rfl) (fun _ _ _ h => h) (by rfl) ?_ (by assumption) ?_
  · intro w hSw
    have j0 : (((m.pn : Int) : Int) != (m.pn : Int)) = false := by simp
    go_simp
  simp only [Act.put, List.setIfInBounds_toArray, List.set_cons_zero, List.set_cons_succ]
  refine take_do (i := 11) (v := (.bool false)) rfl (by kernel_rfl) (by kernel_rfl) (by kernel_rfl) (fun _ _ _ h => h) (by rfl) ?_ (by assumption) ?_
  · intro w hSw
    skip
    go_simp
  simp only [Act.put, List.setIfInBounds_toArray, List.set_cons_zero, List.set_cons_succ]
  refine take_do (i := 12) (v := (.bool false)) rfl (by kernel_rfl) (by kernel_rfl) (by kernel_rfl) (fun _ _ _ h => h) (by rfl) ?_ (by assumption) ?_
  · intro w hSw
    skip
    go_simp
  simp only [Act.put, List.setIfInBounds_toArray, List.set_cons_zero, List.set_cons_succ]
  refine take_do (i := 13) (v := (.pointer (some ⟨s5, 1, none⟩))) rfl (by kernel_rfl) (by kernel_rfl) (by kernel_rfl) (fun _ _ _ h => h) (by rfl) ?_ (by assumption) ?_
  · intro w hSw
    skip
    go_simp
  simp only [Act.put, List.setIfInBounds_toArray, List.set_cons_zero, List.set_cons_succ]
  refine take_do (i := 14) (v := (.slice ya N yc)) rfl (by kernel_rfl) (by kernel_rfl) (by kernel_rfl) (fun _ _ _ h => h) (by rfl) ?_ (by assumption) ?_
  · intro w hSw
    obtain ⟨⟨q0, q1, q2, q3, q4, q5⟩, _⟩ := rowN6 (nrow_below HR.out hSw)
    go_simp
  simp only [Act.put, List.setIfInBounds_toArray, List.set_cons_zero, List.set_cons_succ]
  refine take_do (i := 15) (v := (.int .i64 (N))) rfl (by kernel_rfl) (by kernel_rfl) (by kernel_rfl) (fun _ _ _ h => h) (by rfl) ?_ (by assumption) ?_
  · intro w hSw
    skip
    go_simp
  simp only [Act.put, List.setIfInBounds_toArray, List.set_cons_zero, List.set_cons_succ]
  refine take_do (i := 16) (v := (.pointer (some ⟨s3, 0, none⟩))) rfl (by kernel_rfl) (by kernel_rfl) (by kernel_rfl) (fun _ _ _ h => h) (by rfl) ?_ (by assumption) ?_
  · intro w hSw
    skip
    go_simp
  simp only [Act.put, List.setIfInBounds_toArray, List.set_cons_zero, List.set_cons_succ]
  refine take_do (i := 17) (v := (.int .i64 (m.nodes))) rfl (by kernel_rfl) (by kernel_rfl) (by kernel_rfl) (fun _ _ _ h => h) (by rfl) ?_ (by assumption) ?_
  · intro w hSw
    obtain ⟨⟨q0, q1, q2, q3, q4⟩, _⟩ := rowN5 (nrow_below HT.out.row hSw)
    go_simp
  simp only [Act.put, List.setIfInBounds_toArray, List.set_cons_zero, List.set_cons_succ]
  refine take_do (i := 18) (v := (.bool false)) rfl (by kernel_rfl) (by kernel_rfl) (by kernel_rfl) (fun _ _ _ h => h) (by rfl) ?_ (by assumption) ?_
  · intro w hSw
    have j0 : ((N : Int) != m.nodes) = false := by rw [HNN.out.1]; simp
    go_simp
  simp only [Act.put, List.setIfInBounds_toArray, List.set_cons_zero, List.set_cons_succ]
  refine take_do (i := 19) (v := (.bool false)) rfl (by kernel_rfl) (by kernel_rfl) (by kernel_rfl) (fun _ _ _ h => h) (by rfl) ?_ (by assumption) ?_
  · intro w hSw
    skip
    go_simp
  simp only [Act.put, List.setIfInBounds_toArray, List.set_cons_zero, List.set_cons_succ]
  refine take_do (i := 20) (v := (.bool false)) rfl (by kernel_rfl) (by kernel_rfl) (by kernel_rfl) (fun _ _ _ h => h) (by rfl) ?_ (by assumption) ?_
  · intro w hSw
    skip
    go_simp
  simp only [Act.put, List.setIfInBounds_toArray, List.set_cons_zero, List.set_cons_succ]
  refine take_do (i := 21) (v := (mnV m pa pk la lk wa wk)) rfl (by kernel_rfl) (by kernel_rfl) (by kernel_rfl) (fun _ _ _ h => h) (by rfl) ?_ (by assumption) ?_
  · intro w hSw
    obtain ⟨⟨q0, q1, q2, q3, q4⟩, _⟩ := rowN5 (nrow_below HT.out.row hSw)
    go_simp
  simp only [Act.put, List.setIfInBounds_toArray, List.set_cons_zero, List.set_cons_succ]
  refine take_do (i := 22) (v := (.pointer (some ⟨s5, 0, none⟩))) rfl (by kernel_rfl) (by kernel_rfl) (by kernel_rfl) (fun _ _ _ h => h) (by rfl) ?_ (by assumption) ?_
  · intro w hSw
    skip
    go_simp
  simp only [Act.put, List.setIfInBounds_toArray, List.set_cons_zero, List.set_cons_succ]
  refine take_do (i := 23) (v := (.slice xa m.pn xc)) rfl (by kernel_rfl) (by kernel_rfl) (by kernel_rfl) (fun _ _ _ h => h) (by rfl) ?_ (by assumption) ?_
  · intro w hSw
    obtain ⟨⟨q0, q1, q2, q3, q4, q5⟩, _⟩ := rowN6 (nrow_below HR.out hSw)
    go_simp
  simp only [Act.put, List.setIfInBounds_toArray, List.set_cons_zero, List.set_cons_succ]
  refine take_call (i := 24) rfl (by kernel_rfl) (fun K2 hK => ?_)
  go_simp
  refine (ncopy_any xa m.pn xc F _ (HO.out.1.below hHeld) (by have := HRI.out.pn; omega) HO.out.2.2).mono ?_
  rintro e Z1 ⟨⟨gc, cc, rfl, _, hcp⟩, hb⟩
  have HCP := Lib.hid hcp
  clear hcp
  go_wp2_with fail
  refine hK.out _ _ (hHeld.trans (hb.mono hHeld.size)) (fun hHeld2 => ?_)
  clear hK hHeld
  have hHeld := hHeld2
  clear hHeld2
  try simp only [Act.put, List.setIfInBounds_toArray, List.set_cons_zero, List.set_cons_succ]
  have hxp : ∀ i, i < m.pn → Z1.cell? ⟨gc, i, none⟩ = some (.int .i64 (F i)) := by
    intro i hi
    obtain ⟨b, e, hc⟩ := HCP.out.at1 hi
    cases e
    exact hc
  refine take_call (i := 25) rfl (by kernel_rfl) (fun K2 hK => ?_)
  go_simp
  refine (implRound_any m pa pk la lk wa wk gc m.pn cc F _ (HT.out.at_.below hHeld) (hxp) (by have := HRI.out.pn; omega) (HG.out.below (HT.out.bel.trans (hHeld.mono HT.out.bel.size)))).mono ?_
  clear hxp
  rintro e Z2 ⟨hE, hb⟩
  have HE : ∃ a c r, e = .returned (moV a m.pn c none 0 0 r 0 0 0) := by
    rcases hE with ⟨h, _⟩ | ⟨_, h, _⟩ | ⟨a, c, _, _, _, _, h, _⟩
    · exact absurd h (by have := HRI.out.pn; omega)
    · exact absurd ⟨HRI.out, rfl, HOK.out⟩ h
    · exact ⟨_, _, _, h⟩
  obtain ⟨a8, c8, r8, rfl⟩ := HE
  clear hE
  go_wp2_with fail
  refine hK.out _ _ (hHeld.trans (hb.mono hHeld.size)) (fun hHeld2 => ?_)
  clear hK hHeld
  have hHeld := hHeld2
  clear hHeld2
  try simp only [Act.put, List.setIfInBounds_toArray, List.set_cons_zero, List.set_cons_succ]
  have hfld := mo_code a8 m.pn c8 none 0 0 r8 0 0 0
  refine take_do (i := 26) (v := (.int .i64 (0))) rfl (by kernel_rfl) (by kernel_rfl) (by kernel_rfl) (fun _ _ _ h => h) (by rfl) ?_ (by assumption) ?_
  · intro w hSw
    skip
    go_simp
  simp only [Act.put, List.setIfInBounds_toArray, List.set_cons_zero, List.set_cons_succ]
  clear hfld
  refine take_do (i := 27) (v := (.bool false)) rfl (by kernel_rfl) (by kernel_rfl) (by kernel_rfl) (fun _ _ _ h => h) (by rfl) ?_ (by assumption) ?_
  · intro w hSw
    skip
    go_simp
  simp only [Act.put, List.setIfInBounds_toArray, List.set_cons_zero, List.set_cons_succ]
  refine take_do (i := 28) (v := (.bool false)) rfl (by kernel_rfl) (by kernel_rfl) (by kernel_rfl) (fun _ _ _ h => h) (by rfl) ?_ (by assumption) ?_
  · intro w hSw
    skip
    go_simp
  simp only [Act.put, List.setIfInBounds_toArray, List.set_cons_zero, List.set_cons_succ]
  refine wpAnyH_done (by kernel_rfl) ?_ _
  replace HT := Lib.hid (HT.out.below hHeld)
  replace HR := Lib.hid (nrow_below HR.out hHeld)
  replace HO : Hid (IsAt xa m.pn F Z2) := HO.out.1.below hHeld
  clear hHeld HCP HBY
  obtain ⟨X, hX⟩ : ∃ X, X = Z2 := ⟨_, rfl⟩
  rw [← hX] at HT HR HO ⊢
  clear hX
  have hnn : m.nodes = (N : Int) := HNN.out.1
  have HNO := Lib.hid hnn
  have hn1 : 1 ≤ N ∧ N ≤ 12 := ⟨HNN.out.2.1, HNN.out.2.2.1⟩
  obtain ⟨hn1, hn2⟩ := hn1
  clear hnn
  go_wp2_with fail
  go_loopw [6, 7, 8] (fun kv sv iv wr => ∃ (k : Nat), 1 ≤ k ∧ k ≤ N ∧ kv = .int .i64 k ∧ wr = X) (fun kv _ _ _ => N - (intOf kv).toNat)
  case atStart => exact ⟨1, Nat.le_refl _, hn1, rfl, rfl⟩
  case round =>
    obtain ⟨k, hk1, hk2, rfl, rfl⟩ := hrel
    obtain ⟨⟨o0, o1, o2, o3, o4⟩, _⟩ := rowN5 HT.out.row
    obtain ⟨⟨p0, p1, p2, p3, p4, p5⟩, _⟩ := rowN6 HR.out
    rw [HNO.out] at o0
    by_cases hlt : k < N
    case neg =>
      have hltz : ¬ (k : Int) < (N : Int) := by omega
      go_wp2_with fail
      go_ret
      exact ⟨rfl, HT.out.bel⟩
    have hltz : (k : Int) < (N : Int) := by omega
    go_wp2_with fail
    go_loopw [7, 8] (fun sv iv wx => ∃ (i : Nat), i ≤ m.pn ∧ iv = .int .i64 i ∧ sv = .int .i64 (Mn.bal m F k i) ∧ wx = wr) (fun _ iv _ => m.pn - (intOf iv).toNat)
    case atStart => exact ⟨0, Nat.zero_le _, rfl, rfl, rfl⟩
    case round =>
      obtain ⟨i, hi, rfl, rfl, rfl⟩ := hrel
      have hbb := Mn.bal_bd HRI.out HOK.out k i hi
      have hpn := HRI.out.pn
      have HSU : Hid (Mn.bal m F k i + Mn.co m k i (F i) = Mn.bal m F k (i + 1)) := rfl
      obtain ⟨s, hs⟩ : ∃ s, s = Mn.bal m F k i := ⟨_, rfl⟩
      rw [← hs] at hbb HSU ⊢
      obtain ⟨b1, b2⟩ := hbb
      by_cases hip : i < m.pn
      · have hipz : (i : Int) < (m.pn : Int) := by omega
        obtain ⟨bp, ep, _, c1, c2, _, _⟩ := HT.out.at_.p.at5 hip
        obtain ⟨bf, ef, cf⟩ := HO.out.at1 hip
        subst ep ef
        have hfb := Mn.okF_bd (HRI.out.p i hip) (HOK.out i hip)
        obtain ⟨x, hx⟩ : ∃ x, x = F i := ⟨_, rfl⟩
        rw [← hx] at cf hfb HSU
        obtain ⟨f1, f2⟩ := hfb
        clear hs hx
        have hsb1 : -4000000 ≤ s := by omega
        have hsb2 : s ≤ 4000000 := by omega
        clear b1 b2
        by_cases ct : m.P (i * 5 + 2) = (k : Int)
        · have HC : Hid (s + x = Mn.bal m F k (i + 1)) := by
            show _ = _
            rw [← HSU.out]
            unfold Mn.co Mn.tt
            rw [if_pos ct]
          have ct2 : (m.P (i * 5 + 2) == (k : Int)) = true := by simp [ct]
          clear ct
          go_wp2_with fail
          go_roundw
          case rel => exact ⟨i + 1, by omega, by go_num, by rw [HC.out], trivial⟩
          case measure => simp [intOf]; omega
        · have ct2 : (m.P (i * 5 + 2) == (k : Int)) = false := by simp [ct]
          by_cases cg : m.P (i * 5 + 1) = (k : Int)
          · have HC : Hid (s - x = Mn.bal m F k (i + 1)) := by
              show _ = _
              rw [← HSU.out]
              unfold Mn.co Mn.tt Mn.fr
              rw [if_neg ct, if_pos cg]
              omega
            have cg2 : (m.P (i * 5 + 1) == (k : Int)) = true := by simp [cg]
            clear ct cg
            go_wp2_with fail
            go_roundw
            case rel => exact ⟨i + 1, by omega, by go_num, by rw [HC.out], trivial⟩
            case measure => simp [intOf]; omega
          · have HC : Hid (s = Mn.bal m F k (i + 1)) := by
              show _ = _
              rw [← HSU.out]
              unfold Mn.co Mn.tt Mn.fr
              rw [if_neg ct, if_neg cg]
              omega
            have cg2 : (m.P (i * 5 + 1) == (k : Int)) = false := by simp [cg]
            clear ct cg
            go_wp2_with fail
            go_roundw
            case rel => exact ⟨i + 1, by omega, by go_num, by rw [HC.out], trivial⟩
            case measure => simp [intOf]; omega
      · obtain rfl : i = m.pn := by omega
        have hw : s = m.W k := by
          rw [hs, HF.out]
          exact Mn.sv_bal HST.out (by omega) (by rw [← HN.out]; exact hlt)
        obtain ⟨bw, ew, cw⟩ := HT.out.at_.w.at1 (i := k) (by rw [HNN.out.2.2.2]; exact hlt)
        subst ew
        rw [← hw] at cw
        have hss : (s != s) = false := by simp
        have hkw : (k : Int) < (m.wn : Int) := by rw [HNN.out.2.2.2]; exact hltz
        clear hs hw b1 b2
        go_wp2_with fail
        go_roundw
        case rel => exact ⟨k + 1, by omega, by omega, by go_num, trivial⟩
        case measure => simp [intOf]; omega
end Go.Proofs.YtfgmalnkpgloiaaGreatDoor
