/-
  Joined: MnLb0, MnLawG.
-/
import Derived.Test.YtfgmalnkpgloiaaGreatDoorMnBgD
import Derived.Test.YtfgmalnkpgloiaaGreatDoorMnBgA
import Derived.BigQuiet
namespace Go.Proofs.YtfgmalnkpgloiaaGreatDoor
open Go Go.RowKit Go.Deep

namespace Mn
theorem tot_bd {f : Nat → Nat} {M : Nat} : ∀ n, (∀ i, i < n → f i ≤ M) → tot f n ≤ n * M
  | 0, _ => by simp [tot]
  | n + 1, h => by
    have h1 := tot_bd n (fun i hi => h i (by omega))
    have h2 := h n (by omega)
    rw [tot, Nat.succ_mul]
    omega
theorem small_of {m : Mains} (h : m.pn ≤ 1000 ∧ m.ln ≤ 1000 ∧ m.wn ≤ 1000 ∧ ∀ i, i < m.ln → m.LN i ≤ 1000) : MnSmall m := by
  obtain ⟨h1, h2, h3, h4⟩ := h
  have h5 := tot_bd m.ln h4
  have h6 : m.ln * 1000 ≤ 1000 * 1000 := Nat.mul_le_mul_right _ h2
  exact ⟨by omega, by omega, by omega, by omega⟩
theorem bal_bd {m : Mains} {f : Nat → Int} (hr : Right m) (ho : AllOk m f) (k : Int) : ∀ i, i ≤ m.pn → -(100000 * (i : Int)) ≤ bal m f k i ∧ bal m f k i ≤ 100000 * (i : Int)
  | 0, _ => by simp [bal]
  | i + 1, h => by
    have h1 := bal_bd hr ho k i (by omega)
    have h2 := okF_bd (hr.p i (by omega)) (ho i (by omega))
    rw [bal]
    unfold co
    split
    · omega
    · split <;> omega
/-- What is solved balances. -/
theorem sv_bal {m : Mains} {R : Int} (hs : Start m 0 0) {k : Nat} (h0 : k ≠ 0) (hk : k < nn m) : bal m (svF m R) k m.pn = m.W k := by
  have hr := (hs.rightOk rfl).1
  unfold svF
  rw [setl_bal hr]
  refine flows_bal hr h0 ?_
  rcases hs.outOk rfl with ⟨i, _, h2, _⟩ | ⟨_, h⟩
  · omega
  · exact h k hk
theorem sv_ok {m : Mains} {R : Int} (hs : Start m 0 0) : AllOk m (svF m R) := setl_ok (hs.rightOk rfl).1 _ _ _ (hs.rightOk rfl).2
end Mn
theorem nosv_ne {m : Mn.Mains} {R c a : Int} (h : NoSv m R c a) : c ≠ 0 := by
  rcases h with ⟨_, h, _⟩ | ⟨_, _, h⟩
  · omega
  · exact h
theorem mo_code (fa : Option Addr) (fn fc : Nat) (ha : Option Addr) (hn hc : Nat) (rest rounds at_ code : Int) (w : World) : (Instr.field 31 (moV fa fn fc ha hn hc rest rounds at_ code) 5).run Tryz.prog w = .ok (.int .i64 code) w := by kernel_rfl
theorem mo_flows (fa : Option Addr) (fn fc : Nat) (ha : Option Addr) (hn hc : Nat) (rest rounds at_ code : Int) (w : World) : (Instr.field 31 (moV fa fn fc ha hn hc rest rounds at_ code) 0).run Tryz.prog w = .ok (.slice fa fn fc) w := by kernel_rfl
/-- What stands in the law: the mains, their lists, the old memory. -/
structure DbS (s3 : Nat) (m : Mn.Mains) (pa : Option Addr) (pk : Nat) (la : Option Addr) (lk : Nat) (wa : Option Addr) (wk : Nat) (w W : World) : Prop where
  row : W.rowIs s3 27 5 (rowN (mnL m pa pk la lk wa wk))
  at_ : MnAt m pa la wa W
  bel : Below w.heap.size w W
theorem DbS.below {s3 : Nat} {m : Mn.Mains} {pa : Option Addr} {pk : Nat} {la : Option Addr} {lk : Nat} {wa : Option Addr} {wk : Nat} {w W W' : World} (h : DbS s3 m pa pk la lk wa wk w W) (hb : Below W.heap.size W W') : DbS s3 m pa pk la lk wa wk w W' :=
  ⟨nrow_below h.row hb, h.at_.below hb, h.bel.trans (hb.mono h.bel.size)⟩
end Go.Proofs.YtfgmalnkpgloiaaGreatDoor
namespace Go.Proofs.YtfgmalnkpgloiaaGreatDoor
open Go Go.RowKit Go.Deep

namespace Mn
theorem rnds_ok {m : Mains} (hr : Right m) : ∀ (k : Nat) (f : Nat → Int), AllOk m f → AllOk m (rnds m k f)
  | 0, _, h => h
  | k + 1, _, h => rnds_ok hr k _ (roundTo_ok hr h _ (Nat.le_refl _))
theorem sv_rnds (m : Mains) (R : Int) : rnds m (svD m R) (flows m) = svF m R := by
  unfold svD svF
  rw [setl_rnds]
  rfl
theorem sv_le {m : Mains} {R : Int} (h : 0 ≤ R ∧ R ≤ 100) : (svD m R : Int) ≤ R ∧ svD m R ≤ 100 := by
  have := setl_le (m := m) R.toNat (flows m) 0
  unfold svD
  omega
theorem sv_same {m : Mains} {R : Int} (hr : Right m) (h : (svD m R : Int) < R) : ∀ i, i < m.pn → round m (svF m R) i = svF m R i := by
  refine setl_same hr _ _ _ ?_
  unfold svD at h
  omega
theorem mem_low {H : Nat → Int} {q : Int} {k : Nat} : ∀ n, k ∈ lowTo H q n ↔ k < n ∧ H k < q
  | 0 => by simp [lowTo]
  | n + 1 => by
    rw [lowTo]
    split
    · rename_i h
      rw [List.mem_append, mem_low n, List.mem_singleton]
      constructor
      · rintro (⟨h1, h2⟩ | rfl)
        · exact ⟨by omega, h2⟩
        · exact ⟨by omega, h⟩
      · rintro ⟨h1, h2⟩
        by_cases e : k = n
        · exact Or.inr e
        · exact Or.inl ⟨by omega, h2⟩
    · rename_i h
      rw [mem_low n]
      constructor
      · rintro ⟨h1, h2⟩; exact ⟨by omega, h2⟩
      · rintro ⟨h1, h2⟩
        by_cases e : k = n
        · subst e; exact absurd h2 h
        · exact ⟨by omega, h2⟩
end Mn
theorem nat_mem {l : List Nat} {k : Nat} : (∃ j, j < l.length ∧ natI l j = (k : Int)) ↔ k ∈ l := by
  constructor
  · rintro ⟨j, hj, e⟩
    unfold natI at e
    rw [List.getD_eq_getElem?_getD, List.getElem?_eq_getElem hj] at e
    have e : ((l[j] : Nat) : Int) = (k : Int) := e
    have e2 : l[j] = k := by omega
    rw [← e2]
    exact List.getElem_mem hj
  · intro h
    obtain ⟨j, hj, e⟩ := List.getElem_of_mem h
    refine ⟨j, hj, ?_⟩
    unfold natI
    rw [List.getD_eq_getElem?_getD, List.getElem?_eq_getElem hj]
    show ((l[j] : Nat) : Int) = _
    rw [e]
theorem at_cells {g n : Nat} {f : Nat → Int} {W : World} (h : IsAt (some ⟨g, 0, none⟩) n f W) : ∀ i, i < n → W.cell? ⟨g, i, none⟩ = some (.int .i64 (f i)) := by
  intro i hi
  obtain ⟨b, e, hc⟩ := h.at1 hi
  cases e
  exact hc
theorem owl_rne {T T' : TypeId} {B N c o m k : Nat} {a : Option Addr} {f : Nat → Int} {F : Nat → Value} {W : World} (h : OwL T B N a c f W) (hr : W.rowIs o T' m F) (hT : T ≠ T') (e : a = some ⟨k, 0, none⟩) : k ≠ o := by
  rintro rfl
  rcases h with h | ⟨g, e1, _, _, _, _, ⟨c2, e2, _⟩, _⟩
  · rw [h.1] at e; cases e
  · rw [e] at e1
    cases e1
    obtain ⟨c3, e3, _⟩ := hr
    rw [e2] at e3
    cases e3
    exact hT rfl
theorem nput6 {T : TypeId} {g : Nat} {W : World} {l : List Value} (h : W.rowIs g T 6 (rowN l)) (hl : l.length = 6) (a b c d e f : Value) :
    (((((((W).setCell ⟨g, 0, none⟩ a).setCell ⟨g, 1, none⟩ b).setCell ⟨g, 2, none⟩ c).setCell ⟨g, 3, none⟩ d).setCell ⟨g, 4, none⟩ e).setCell ⟨g, 5, none⟩ f).rowIs g T 6 (rowN [a, b, c, d, e, f]) := by
  match l, hl with
  | [x0, x1, x2, x3, x4, x5], _ => exact rowN_put (rowN_put (rowN_put (rowN_put (rowN_put (rowN_put h 0 a (by simp)) 1 b (by simp)) 2 c (by simp)) 3 d (by simp)) 4 e (by simp)) 5 f (by simp)
theorem nblk6 {g j : Nat} {W : World} (hj : j ≠ g) (a b c d e f : Value) :
    (((((((W).setCell ⟨g, 0, none⟩ a).setCell ⟨g, 1, none⟩ b).setCell ⟨g, 2, none⟩ c).setCell ⟨g, 3, none⟩ d).setCell ⟨g, 4, none⟩ e).setCell ⟨g, 5, none⟩ f).heap[j]? = W.heap[j]? := by
  rw [Below.heap_setCell _ _ _ _ hj, Below.heap_setCell _ _ _ _ hj, Below.heap_setCell _ _ _ _ hj, Below.heap_setCell _ _ _ _ hj, Below.heap_setCell _ _ _ _ hj, Below.heap_setCell _ _ _ _ hj]
theorem nbel6 {B g : Nat} {w W : World} (h : Below B w W) (hg : B ≤ g) (a b c d e f : Value) :
    Below B w (((((((W).setCell ⟨g, 0, none⟩ a).setCell ⟨g, 1, none⟩ b).setCell ⟨g, 2, none⟩ c).setCell ⟨g, 3, none⟩ d).setCell ⟨g, 4, none⟩ e).setCell ⟨g, 5, none⟩ f) :=
  (((((h.setCell (p := ⟨g, 0, none⟩) hg _).setCell (p := ⟨g, 1, none⟩) hg _).setCell (p := ⟨g, 2, none⟩) hg _).setCell (p := ⟨g, 3, none⟩) hg _).setCell (p := ⟨g, 4, none⟩) hg _).setCell (p := ⟨g, 5, none⟩) hg _
/-- What stands in the law: mains, what was solved, the bytes. -/
structure RgS (s3 s5 : Nat) (m : Mn.Mains) (pa : Option Addr) (pk : Nat) (la : Option Addr) (lk : Nat) (wa : Option Addr) (wk : Nat) (xa : Option Addr) (xc : Nat) (ya : Option Addr) (N yc dn : Nat) (rs : Int) (F G : Nat → Int) (a : Option Addr) (len : Nat) (w W : World) : Prop where
  t : DbS s3 m pa pk la lk wa wk w W
  r : W.rowIs s5 31 6 (rowN (moL xa m.pn xc ya N yc rs dn 0 0))
  f : IsAt xa m.pn F W
  h : IsAt ya N G W
  b : Bytes a len W
theorem RgS.below {s3 s5 : Nat} {m : Mn.Mains} {pa : Option Addr} {pk : Nat} {la : Option Addr} {lk : Nat} {wa : Option Addr} {wk : Nat} {xa : Option Addr} {xc : Nat} {ya : Option Addr} {N yc dn : Nat} {rs : Int} {F G : Nat → Int} {a : Option Addr} {len : Nat} {w W W' : World} (h : RgS s3 s5 m pa pk la lk wa wk xa xc ya N yc dn rs F G a len w W) (hb : Below W.heap.size W W') : RgS s3 s5 m pa pk la lk wa wk xa xc ya N yc dn rs F G a len w W' :=
  ⟨h.t.below hb, nrow_below h.r hb, h.f.below hb, h.h.below hb, h.b.below hb⟩
/-- What a round's answer is. -/
structure RgR (m : Mn.Mains) (G : Nat → Int) (w : World) (xb : Nat) (a : Option Addr) (c : Nat) (W : World) : Prop where
  bel : Below w.heap.size w W
  row : W.rowIs xb 31 6 (rowN (moL a m.pn c none 0 0 (Mn.rest m (Mn.round m G)) 0 0 0))
  ow : OwL 2 0 m.pn a c (Mn.round m G) W
/-- The flows behind so many rounds. -/
structure RgF (m : Mn.Mains) (k : Nat) (fa : Option Addr) (fc : Nat) (rs r : Int) (W : World) : Prop where
  f : IsAt fa m.pn (Mn.rnds m k (Mn.flows m)) W
  n : fa = none → fc = 0
  r0 : k = 0 → r = rs
  r1 : k ≠ 0 → r = Mn.rest m (Mn.rnds m k (Mn.flows m))
set_option maxRecDepth 100000 in
set_option maxHeartbeats 16000000 in
theorem mainsRounds_law (w : World) (a : Option Addr) (len cap : Nat) (h : Bytes a len w) (hl : len ≤ 9223372036854775807) (hg : Et w) :
    Calls Tryz.prog 4 #[.slice a len cap] w fun e w' => e = .returned (.bool true) ∧ Below w.heap.size w w' := by
  have H := Lib.hid h
  have HG := Lib.hid hg
  clear h hg
  by_cases hbig : (1048576 : Int) < (len : Int)
  · go_enter Tryz.func4, Tryz.ntmps4
    go_wp2_with fail
    go_ret
    exact ⟨rfl, Below.refl _ _⟩
  go_enter Tryz.func4, Tryz.ntmps4
  go_wp2_with fail
  refine (drawMS_any a len cap _ H.out (by omega)).mono ?_
  rintro e w1 ⟨⟨m, pa, pk, la, lk, wa, wk, rd, rfl, hat, hsz, hrd⟩, hb⟩
  obtain ⟨W3, hW3⟩ : ∃ W, W = w1.alloc (.cells #[.int .i64 m.nodes, .int .i64 m.head, .slice pa m.pn pk, .slice la m.ln lk, .slice wa m.wn wk] 27) := ⟨_, rfl⟩
  obtain ⟨s3, hs3⟩ : ∃ s, s = w1.heap.size := ⟨_, rfl⟩
  have HBY : Hid (Bytes a len W3) := by show Bytes _ _ _; rw [hW3]; exact H.out.below (hb.trans ((nbel_alloc _ _).mono hb.size))
  have HT : Hid (DbS s3 m pa pk la lk wa wk w W3) := by
    show DbS _ _ _ _ _ _ _ _ _ _
    rw [hW3, hs3]
    exact ⟨rowN_alloc w1 _ _, hat.below (nbel_alloc _ _), hb.trans ((nbel_alloc _ _).mono hb.size)⟩
  have HW3 := Lib.hid hW3
  have HS3 := Lib.hid hs3
  have HSM := Lib.hid (Mn.small_of hsz)
  have HSZ := Lib.hid hsz
  have HLEN : Hid (len ≤ 4194304) := by show _ ≤ _; omega
  obtain ⟨hrd0, hrd1⟩ := hrd
  clear hb hat hW3 hs3 hsz H hbig hl
  go_wp2_with fail
  rw [← HW3.out, ← HS3.out]
  clear HW3 HS3
  refine (specSolve_any m pa pk la lk wa wk rd _ HT.out.at_ HSM.out).mono ?_
  rintro e w4 ⟨hE, hb⟩
  replace HT := Lib.hid (HT.out.below hb)
  replace HBY := Lib.hid (HBY.out.below hb)
  clear hb
  rcases hE with ⟨c, ac, hno, rfl⟩ | ⟨x4, c4, p4, d4, hR, hst, rfl, _⟩
  · have hfld := mo_code none 0 0 none 0 0 0 0 ac c
    have hc : (c != 0) = true := by simpa using nosv_ne hno
    clear hno
    go_wp2_with fail
    go_ret
    exact ⟨rfl, HT.out.bel⟩
  have HST := Lib.hid hst
  have HRR := Lib.hid hR
  obtain ⟨F, hF⟩ : ∃ F, F = svF m rd := ⟨_, rfl⟩
  obtain ⟨dn, hdn⟩ : ∃ d, d = svD m rd := ⟨_, rfl⟩
  obtain ⟨rs, hrs⟩ : ∃ r, r = Mn.rest m F := ⟨_, rfl⟩
  obtain ⟨HH, hHH⟩ : ∃ G, G = Mn.heads m F := ⟨_, rfl⟩
  obtain ⟨N, hN⟩ : ∃ N, N = Mn.nn m := ⟨_, rfl⟩
  rw [← hF, ← hdn, ← hrs, ← hN]
  have HF := Lib.hid hF
  have HDN := Lib.hid hdn
  have HRS := Lib.hid hrs
  have HHH := Lib.hid hHH
  have HN := Lib.hid hN
  have hfld := mo_code x4 m.pn c4 p4 N d4 rs dn 0 0
  clear hF hdn hrs hHH hN hst hR
  obtain ⟨⟨o0, o1, o2, o3, o4⟩, _⟩ := rowN5 HT.out.row
  go_wp2_with fail
  clear hfld o0 o1 o2 o3 o4
  refine (implSolve_any m pa pk la lk wa wk rd _ HT.out.at_ (HG.out.below HT.out.bel)).mono ?_
  rintro e w6 ⟨hE, hb⟩
  replace HT := Lib.hid (HT.out.below hb)
  replace HBY := Lib.hid (HBY.out.below hb)
  clear hb
  rcases hE with ⟨c, ac, hno, rfl⟩ | ⟨xa, xc, ya, yc, _, _, rfl, hown⟩
  · exact (noSv_not hno HRR.out HST.out).elim
  rw [← HF.out] at hown ⊢
  rw [← HDN.out, ← HRS.out, ← HN.out]
  rw [← HHH.out, ← HN.out] at hown
  obtain ⟨W7, hW7⟩ : ∃ W, W = w6.alloc (.cells (moA xa m.pn xc ya N yc rs dn 0 0) 31) := ⟨_, rfl⟩
  obtain ⟨s5, hs5⟩ : ∃ s, s = w6.heap.size := ⟨_, rfl⟩
  have HR : Hid (W7.rowIs s5 31 6 (rowN (moL xa m.pn xc ya N yc rs dn 0 0))) := by show World.rowIs _ _ _ _ _; rw [hW7, hs5]; exact rowN_alloc w6 _ _
  have HO : Hid (IsAt xa m.pn F W7 ∧ IsAt ya N HH W7 ∧ (xa = none → xc = 0)) := by
    show _ ∧ _
    rw [hW7]
    refine ⟨hown.f.at_.below (nbel_alloc _ _), hown.g.at_.below (nbel_alloc _ _), fun e => ?_⟩
    rcases hown.f with ⟨_, _, h⟩ | ⟨g, h, _⟩
    · exact h
    · rw [e] at h; cases h
  replace HT : Hid (DbS s3 m pa pk la lk wa wk w W7) := by show DbS _ _ _ _ _ _ _ _ _ _; rw [hW7]; exact HT.out.below (nbel_alloc _ _)
  replace HBY : Hid (Bytes a len W7) := by show Bytes _ _ _; rw [hW7]; exact HBY.out.below (nbel_alloc _ _)
  have HOK : Hid (Mn.AllOk m F) := by show Mn.AllOk _ _; rw [HF.out]; exact Mn.sv_ok HST.out
  have HRI := Lib.hid (HST.out.rightOk rfl).1
  have HNN : Hid (m.nodes = (N : Int) ∧ 1 ≤ N ∧ N ≤ 12 ∧ m.wn = N) := by show _ ∧ _; rw [HN.out]; exact HRI.out.nn
  have HW7 := Lib.hid hW7
  have HS5 := Lib.hid hs5
  clear hW7 hs5 hown
  go_upto_region 7 with fail
  rw [← HW7.out, ← HS5.out]
  clear HW7 HS5
  obtain ⟨⟨o0, o1, o2, o3, o4⟩, _⟩ := rowN5 HT.out.row
  go_wp2_with fail
  clear o0 o1 o2 o3 o4
  refine (implStart_any m pa pk la lk wa wk _ HT.out.at_ (HG.out.below HT.out.bel)).mono ?_
  rintro e w8 ⟨hE, hb⟩
  have HXN : Hid (xa = none → xc = 0) := HO.out.2.2
  have HS : Hid (RgS s3 s5 m pa pk la lk wa wk xa xc ya N yc dn rs F HH a len w w8) := ⟨HT.out.below hb, nrow_below HR.out hb, HO.out.1.below hb, HO.out.2.1.below hb, HBY.out.below hb⟩
  clear hb HT HR HO HBY
  rcases hE with ⟨c, ac, h1, h2, rfl⟩ | ⟨gf, _, rfl, hfl, _⟩
  · exact (noSv_not (Or.inr ⟨HRR.out, h1, h2⟩) HRR.out HST.out).elim
  have HFL : Hid (RgF m 0 (some ⟨gf, 0, none⟩) m.pn rs rs w8) := ⟨Or.inr ⟨gf, rfl, fun j hj => hfl.cell hj⟩, fun e => (by cases e), fun _ => rfl, fun e => absurd rfl e⟩
  clear hfl
  have hfld := mo_flows (some ⟨gf, 0, none⟩) m.pn m.pn none 0 0 0 0 0 0
  have hdl : (dn : Int) ≤ rd ∧ dn ≤ 100 := by rw [HDN.out]; exact Mn.sv_le HRR.out
  obtain ⟨hd1, hd2⟩ := hdl
  obtain ⟨⟨p0, p1, p2, p3, p4, p5⟩, _⟩ := rowN6 HS.out.r
  go_wp2_with fail
  clear hfld p0 p1 p2 p3 p4 p5
  go_loopw [6, 7, 8, 9] (fun fv rv kv xv wr => ∃ (k : Nat) (fa : Option Addr) (fc : Nat) (r : Int), k ≤ dn ∧ kv = .int .i64 k ∧ fv = .slice fa m.pn fc ∧ rv = .int .i64 r ∧ Hid (RgF m k fa fc rs r wr) ∧ Hid (RgS s3 s5 m pa pk la lk wa wk xa xc ya N yc dn rs F HH a len w wr)) (fun _ _ kv _ _ => dn - (intOf kv).toNat)
  case atStart => exact ⟨0, _, _, _, Nat.zero_le _, rfl, rfl, rfl, HFL, HS⟩
  case round =>
    clear HFL HS
    obtain ⟨k, fa, fc, r, hk, rfl, rfl, rfl, HFL, HS⟩ := hrel
    obtain ⟨⟨p0, p1, p2, p3, p4, p5⟩, _⟩ := rowN6 HS.out.r
    by_cases hlt : k < dn
    case pos =>
      have hltz : (k : Int) < (dn : Int) := by omega
      have hk2 : (k : Int) < 200 := by omega
      go_upto_region 12 with fail
      clear p0 p1 p2 p3 p4 p5
      obtain ⟨G, hG⟩ : ∃ G, G = Mn.rnds m k (Mn.flows m) := ⟨_, rfl⟩
      have HGE := Lib.hid hG
      have HFA : Hid (IsAt fa m.pn G wr) := by show IsAt _ _ _ _; rw [hG]; exact HFL.out.f
      have HFN := Lib.hid HFL.out.n
      have HGO : Hid (Mn.AllOk m G) := by show Mn.AllOk _ _; rw [hG]; exact Mn.rnds_ok HRI.out _ _ (HST.out.rightOk rfl).2
      clear hG HFL
      go_cut [9] (fun q Wq => ∃ xb aN cN, q = .pointer (some ⟨xb, 0, none⟩) ∧ Hid (RgR m G wr xb aN cN Wq))
      case first =>
        refine wp_region_held_drew (S := fun V => Below wr.heap.size wr V) (by kernel_rfl) (Below.refl _ _).drew (fun hHeld => ?_)
        obtain ⟨Z, hZ⟩ : ∃ Z, Z = wr.drew := ⟨_, rfl⟩
        rw [← hZ] at hHeld ⊢
        clear hZ
        refine take_do (i := 0) (v := (mnV m pa pk la lk wa wk)) rfl (by kernel_rfl) (by kernel_rfl) (by kernel_rfl) (fun _ _ _ h => h) (by rfl) ?_ (by assumption) ?_
        · intro w hSw
          obtain ⟨⟨q0, q1, q2, q3, q4⟩, _⟩ := rowN5 (nrow_below HS.out.t.row hSw)
          go_simp
        simp only [Act.put, List.setIfInBounds_toArray, List.set_cons_zero, List.set_cons_succ]
        refine take_do (i := 1) (v := (.slice fa m.pn fc)) rfl (by kernel_rfl) (by kernel_rfl) (by kernel_rfl) (fun _ _ _ h => h) (by rfl) ?_ (by assumption) ?_
        · intro w hSw
          go_simp
        simp only [Act.put, List.setIfInBounds_toArray, List.set_cons_zero, List.set_cons_succ]
        refine wpAnyH_ready (rs := [2, 4]) (by kernel_rfl) (by simp) (AllReadyH.cons (at_drop (i := 2) rfl) (fun K2 hK => ?_) (AllReadyH.cons (at_drop (i := 4) rfl) (fun K2 hK => ?_) (AllReadyH.nil)))
        · go_simp
          refine (ncopy_any fa m.pn fc G _ (HFA.out.below hHeld) (by have := HRI.out.pn; omega) HFN.out).mono ?_
          rintro e Z1 ⟨⟨gc, cc, rfl, _, hcp⟩, hb⟩
          have HCP := Lib.hid hcp
          clear hcp
          go_wp2_with fail
          refine hK.out _ _ (hHeld.trans (hb.mono hHeld.size)) (fun hHeld2 => ?_)
          clear hK hHeld hb
          have hHeld := hHeld2
          clear hHeld2
          refine wpAnyH_ready (rs := [3, 4]) (by kernel_rfl) (by simp) (AllReadyH.cons (at_drop (i := 3) rfl) (fun K2 hK => ?_) (AllReadyH.cons (at_drop (i := 4) rfl) (fun K2 hK => ?_) (AllReadyH.nil)))
          · go_simp
            refine (implRound_any m pa pk la lk wa wk gc m.pn cc G _ (HS.out.t.at_.below hHeld) (at_cells HCP.out) (by have := HRI.out.pn; omega) (HG.out.below (HS.out.t.bel.trans (hHeld.mono HS.out.t.bel.size)))).mono ?_
            rintro e Z2 ⟨hE, hb⟩
            obtain ⟨aN, cN, rfl, hq⟩ : ∃ a c, e = .returned (moV a m.pn c none 0 0 (Mn.rest m (Mn.round m G)) 0 0 0) ∧ OwL 2 0 m.pn a c (Mn.round m G) Z2 := by
              rcases hE with ⟨h, _⟩ | ⟨_, h, _⟩ | ⟨a, c, _, _, _, _, h, hq⟩
              · exact absurd h (by have := HRI.out.pn; omega)
              · exact absurd ⟨HRI.out, rfl, HGO.out⟩ h
              · exact ⟨_, _, h, hq.low (Nat.zero_le _)⟩
            have HOW := Lib.hid hq
            clear hq hE
            have HCP2 := Lib.hid (HCP.out.below hb)
            clear HCP
            have HCP := HCP2
            clear HCP2
            go_wp2_with fail
            refine hK.out _ _ (hHeld.trans (hb.mono hHeld.size)) (fun hHeld2 => ?_)
            clear hK hHeld hb
            have hHeld := hHeld2
            clear hHeld2
            refine wpAnyH_ready (rs := [4]) (by kernel_rfl) (by simp) (AllReadyH.cons (at_drop (i := 4) rfl) (fun K2 hK => ?_) (AllReadyH.nil))
            obtain ⟨Z3, hZ3⟩ : ∃ Z3, Z3 = Z2.alloc (.cells #[.slice none 0 0, .slice none 0 0, .int .i64 0, .int .i64 0, .int .i64 0, .int .i64 0] 31) := ⟨_, rfl⟩
            have hb : Below Z2.heap.size Z2 Z3 := by rw [hZ3]; exact nbel_alloc _ _
            have HV : Hid (Z3.rowIs Z2.heap.size 31 6 (rowN [.slice none 0 0, .slice none 0 0, .int .i64 0, .int .i64 0, .int .i64 0, .int .i64 0])) := by show World.rowIs _ _ _ _ _; rw [hZ3]; exact rowN_alloc _ _ _
            obtain ⟨xb, hxb⟩ : ∃ xb, xb = Z2.heap.size := ⟨_, rfl⟩
            rw [← hxb] at HV
            have HXL : Hid (wr.heap.size ≤ xb) := by show _ ≤ _; rw [hxb]; exact hHeld.size
            have HCP2 := Lib.hid (HCP.out.below hb)
            clear HCP
            have HCP := HCP2
            clear HCP2
            have HOW2 := Lib.hid (HOW.out.below hb)
            clear HOW
            have HOW := HOW2
            clear HOW2
            go_simp
            rw [← hZ3, ← hxb]
            clear hZ3
            refine hK.out _ _ (hHeld.trans (hb.mono hHeld.size)) (fun hHeld2 => ?_)
            clear hK hHeld hxb hb
            have hHeld := hHeld2
            clear hHeld2
            have zr := nput6 HV.out rfl (.slice aN m.pn cN) (.slice none 0 0) (.int .i64 (Mn.rest m (Mn.round m G))) (.int .i64 0) (.int .i64 0) (.int .i64 0)
            have zk := fun (k : Nat) (hk : k ≠ xb) => nblk6 (W := Z3) hk (.slice aN m.pn cN) (.slice none 0 0) (.int .i64 (Mn.rest m (Mn.round m G))) (.int .i64 0) (.int .i64 0) (.int .i64 0)
            have zb := nbel6 (g := xb) hHeld HXL.out (.slice aN m.pn cN) (.slice none 0 0) (.int .i64 (Mn.rest m (Mn.round m G))) (.int .i64 0) (.int .i64 0) (.int .i64 0)
            obtain ⟨⟨o0, o1, o2, o3, o4, o5⟩, z0, z1, z2, z3, z4, z5⟩ := rowN6 HV.out
            have hol := HV.out.lt
            refine take_call (i := 5) rfl (by kernel_rfl) (fun K2 hK => ?_)
            go_simp
            clear o0 o1 o2 o3 o4 o5 z0 z1 z2 z3 z4 z5
            have zo : OwL 2 0 m.pn aN cN (Mn.round m G) _ := HOW.out.keep (fun k e _ => zk k (owl_rne HOW.out HV.out (by decide) e))
            generalize ((((((Z3).setCell ⟨xb, 0, none⟩ (.slice aN m.pn cN)).setCell ⟨xb, 1, none⟩ (.slice none 0 0)).setCell ⟨xb, 2, none⟩ (.int .i64 (Mn.rest m (Mn.round m G)))).setCell ⟨xb, 3, none⟩ (.int .i64 0)).setCell ⟨xb, 4, none⟩ (.int .i64 0)).setCell ⟨xb, 5, none⟩ (.int .i64 0) = Y at zr zk zb zo ⊢
            refine hK.out _ _ zb (fun hHeld2 => ?_)
            clear hK hHeld hHeld2
            refine wpAnyH_done (by kernel_rfl) ?_ _
            have HPR : Hid (RgR m G wr xb aN cN Y) := ⟨zb, zr, zo⟩
            clear zo
            clear zr zk zb
            go_wp2_with fail
            go_meet
            case rel => exact ⟨xb, aN, cN, rfl, HPR⟩
          · obtain ⟨Z2, hZ2⟩ : ∃ Z2, Z2 = Z1.alloc (.cells #[.slice none 0 0, .slice none 0 0, .int .i64 0, .int .i64 0, .int .i64 0, .int .i64 0] 31) := ⟨_, rfl⟩
            have hb : Below Z1.heap.size Z1 Z2 := by rw [hZ2]; exact nbel_alloc _ _
            have HV : Hid (Z2.rowIs Z1.heap.size 31 6 (rowN [.slice none 0 0, .slice none 0 0, .int .i64 0, .int .i64 0, .int .i64 0, .int .i64 0])) := by show World.rowIs _ _ _ _ _; rw [hZ2]; exact rowN_alloc _ _ _
            obtain ⟨xb, hxb⟩ : ∃ xb, xb = Z1.heap.size := ⟨_, rfl⟩
            rw [← hxb] at HV
            have HXL : Hid (wr.heap.size ≤ xb) := by show _ ≤ _; rw [hxb]; exact hHeld.size
            have HCP2 := Lib.hid (HCP.out.below hb)
            clear HCP
            have HCP := HCP2
            clear HCP2
            go_simp
            rw [← hZ2, ← hxb]
            clear hZ2
            refine hK.out _ _ (hHeld.trans (hb.mono hHeld.size)) (fun hHeld2 => ?_)
            clear hK hHeld hxb hb
            have hHeld := hHeld2
            clear hHeld2
            refine wpAnyH_ready (rs := [3]) (by kernel_rfl) (by simp) (AllReadyH.cons (at_drop (i := 3) rfl) (fun K2 hK => ?_) (AllReadyH.nil))
            go_simp
            refine (implRound_any m pa pk la lk wa wk gc m.pn cc G _ (HS.out.t.at_.below hHeld) (at_cells HCP.out) (by have := HRI.out.pn; omega) (HG.out.below (HS.out.t.bel.trans (hHeld.mono HS.out.t.bel.size)))).mono ?_
            rintro e Z3 ⟨hE, hb⟩
            obtain ⟨aN, cN, rfl, hq⟩ : ∃ a c, e = .returned (moV a m.pn c none 0 0 (Mn.rest m (Mn.round m G)) 0 0 0) ∧ OwL 2 0 m.pn a c (Mn.round m G) Z3 := by
              rcases hE with ⟨h, _⟩ | ⟨_, h, _⟩ | ⟨a, c, _, _, _, _, h, hq⟩
              · exact absurd h (by have := HRI.out.pn; omega)
              · exact absurd ⟨HRI.out, rfl, HGO.out⟩ h
              · exact ⟨_, _, h, hq.low (Nat.zero_le _)⟩
            have HOW := Lib.hid hq
            clear hq hE
            have HV2 := Lib.hid (nrow_below HV.out hb)
            clear HV
            have HV := HV2
            clear HV2
            have HCP2 := Lib.hid (HCP.out.below hb)
            clear HCP
            have HCP := HCP2
            clear HCP2
            go_wp2_with fail
            refine hK.out _ _ (hHeld.trans (hb.mono hHeld.size)) (fun hHeld2 => ?_)
            clear hK hHeld hb
            have hHeld := hHeld2
            clear hHeld2
            have zr := nput6 HV.out rfl (.slice aN m.pn cN) (.slice none 0 0) (.int .i64 (Mn.rest m (Mn.round m G))) (.int .i64 0) (.int .i64 0) (.int .i64 0)
            have zk := fun (k : Nat) (hk : k ≠ xb) => nblk6 (W := Z3) hk (.slice aN m.pn cN) (.slice none 0 0) (.int .i64 (Mn.rest m (Mn.round m G))) (.int .i64 0) (.int .i64 0) (.int .i64 0)
            have zb := nbel6 (g := xb) hHeld HXL.out (.slice aN m.pn cN) (.slice none 0 0) (.int .i64 (Mn.rest m (Mn.round m G))) (.int .i64 0) (.int .i64 0) (.int .i64 0)
            obtain ⟨⟨o0, o1, o2, o3, o4, o5⟩, z0, z1, z2, z3, z4, z5⟩ := rowN6 HV.out
            have hol := HV.out.lt
            refine take_call (i := 5) rfl (by kernel_rfl) (fun K2 hK => ?_)
            go_simp
            clear o0 o1 o2 o3 o4 o5 z0 z1 z2 z3 z4 z5
            have zo : OwL 2 0 m.pn aN cN (Mn.round m G) _ := HOW.out.keep (fun k e _ => zk k (owl_rne HOW.out HV.out (by decide) e))
            generalize ((((((Z3).setCell ⟨xb, 0, none⟩ (.slice aN m.pn cN)).setCell ⟨xb, 1, none⟩ (.slice none 0 0)).setCell ⟨xb, 2, none⟩ (.int .i64 (Mn.rest m (Mn.round m G)))).setCell ⟨xb, 3, none⟩ (.int .i64 0)).setCell ⟨xb, 4, none⟩ (.int .i64 0)).setCell ⟨xb, 5, none⟩ (.int .i64 0) = Y at zr zk zb zo ⊢
            refine hK.out _ _ zb (fun hHeld2 => ?_)
            clear hK hHeld hHeld2
            refine wpAnyH_done (by kernel_rfl) ?_ _
            have HPR : Hid (RgR m G wr xb aN cN Y) := ⟨zb, zr, zo⟩
            clear zo
            clear zr zk zb
            go_wp2_with fail
            go_meet
            case rel => exact ⟨xb, aN, cN, rfl, HPR⟩
        · obtain ⟨Z1, hZ1⟩ : ∃ Z1, Z1 = Z.alloc (.cells #[.slice none 0 0, .slice none 0 0, .int .i64 0, .int .i64 0, .int .i64 0, .int .i64 0] 31) := ⟨_, rfl⟩
          have hb : Below Z.heap.size Z Z1 := by rw [hZ1]; exact nbel_alloc _ _
          have HV : Hid (Z1.rowIs Z.heap.size 31 6 (rowN [.slice none 0 0, .slice none 0 0, .int .i64 0, .int .i64 0, .int .i64 0, .int .i64 0])) := by show World.rowIs _ _ _ _ _; rw [hZ1]; exact rowN_alloc _ _ _
          obtain ⟨xb, hxb⟩ : ∃ xb, xb = Z.heap.size := ⟨_, rfl⟩
          rw [← hxb] at HV
          have HXL : Hid (wr.heap.size ≤ xb) := by show _ ≤ _; rw [hxb]; exact hHeld.size
          go_simp
          rw [← hZ1, ← hxb]
          clear hZ1
          refine hK.out _ _ (hHeld.trans (hb.mono hHeld.size)) (fun hHeld2 => ?_)
          clear hK hHeld hxb hb
          have hHeld := hHeld2
          clear hHeld2
          refine wpAnyH_ready (rs := [2]) (by kernel_rfl) (by simp) (AllReadyH.cons (at_drop (i := 2) rfl) (fun K2 hK => ?_) (AllReadyH.nil))
          go_simp
          refine (ncopy_any fa m.pn fc G _ (HFA.out.below hHeld) (by have := HRI.out.pn; omega) HFN.out).mono ?_
          rintro e Z2 ⟨⟨gc, cc, rfl, _, hcp⟩, hb⟩
          have HCP := Lib.hid hcp
          clear hcp
          have HV2 := Lib.hid (nrow_below HV.out hb)
          clear HV
          have HV := HV2
          clear HV2
          go_wp2_with fail
          refine hK.out _ _ (hHeld.trans (hb.mono hHeld.size)) (fun hHeld2 => ?_)
          clear hK hHeld hb
          have hHeld := hHeld2
          clear hHeld2
          refine wpAnyH_ready (rs := [3]) (by kernel_rfl) (by simp) (AllReadyH.cons (at_drop (i := 3) rfl) (fun K2 hK => ?_) (AllReadyH.nil))
          go_simp
          refine (implRound_any m pa pk la lk wa wk gc m.pn cc G _ (HS.out.t.at_.below hHeld) (at_cells HCP.out) (by have := HRI.out.pn; omega) (HG.out.below (HS.out.t.bel.trans (hHeld.mono HS.out.t.bel.size)))).mono ?_
          rintro e Z3 ⟨hE, hb⟩
          obtain ⟨aN, cN, rfl, hq⟩ : ∃ a c, e = .returned (moV a m.pn c none 0 0 (Mn.rest m (Mn.round m G)) 0 0 0) ∧ OwL 2 0 m.pn a c (Mn.round m G) Z3 := by
            rcases hE with ⟨h, _⟩ | ⟨_, h, _⟩ | ⟨a, c, _, _, _, _, h, hq⟩
            · exact absurd h (by have := HRI.out.pn; omega)
            · exact absurd ⟨HRI.out, rfl, HGO.out⟩ h
            · exact ⟨_, _, h, hq.low (Nat.zero_le _)⟩
          have HOW := Lib.hid hq
          clear hq hE
          have HV2 := Lib.hid (nrow_below HV.out hb)
          clear HV
          have HV := HV2
          clear HV2
          have HCP2 := Lib.hid (HCP.out.below hb)
          clear HCP
          have HCP := HCP2
          clear HCP2
          go_wp2_with fail
          refine hK.out _ _ (hHeld.trans (hb.mono hHeld.size)) (fun hHeld2 => ?_)
          clear hK hHeld hb
          have hHeld := hHeld2
          clear hHeld2
          have zr := nput6 HV.out rfl (.slice aN m.pn cN) (.slice none 0 0) (.int .i64 (Mn.rest m (Mn.round m G))) (.int .i64 0) (.int .i64 0) (.int .i64 0)
          have zk := fun (k : Nat) (hk : k ≠ xb) => nblk6 (W := Z3) hk (.slice aN m.pn cN) (.slice none 0 0) (.int .i64 (Mn.rest m (Mn.round m G))) (.int .i64 0) (.int .i64 0) (.int .i64 0)
          have zb := nbel6 (g := xb) hHeld HXL.out (.slice aN m.pn cN) (.slice none 0 0) (.int .i64 (Mn.rest m (Mn.round m G))) (.int .i64 0) (.int .i64 0) (.int .i64 0)
          obtain ⟨⟨o0, o1, o2, o3, o4, o5⟩, z0, z1, z2, z3, z4, z5⟩ := rowN6 HV.out
          have hol := HV.out.lt
          refine take_call (i := 5) rfl (by kernel_rfl) (fun K2 hK => ?_)
          go_simp
          clear o0 o1 o2 o3 o4 o5 z0 z1 z2 z3 z4 z5
          have zo : OwL 2 0 m.pn aN cN (Mn.round m G) _ := HOW.out.keep (fun k e _ => zk k (owl_rne HOW.out HV.out (by decide) e))
          generalize ((((((Z3).setCell ⟨xb, 0, none⟩ (.slice aN m.pn cN)).setCell ⟨xb, 1, none⟩ (.slice none 0 0)).setCell ⟨xb, 2, none⟩ (.int .i64 (Mn.rest m (Mn.round m G)))).setCell ⟨xb, 3, none⟩ (.int .i64 0)).setCell ⟨xb, 4, none⟩ (.int .i64 0)).setCell ⟨xb, 5, none⟩ (.int .i64 0) = Y at zr zk zb zo ⊢
          refine hK.out _ _ zb (fun hHeld2 => ?_)
          clear hK hHeld hHeld2
          refine wpAnyH_done (by kernel_rfl) ?_ _
          have HPR : Hid (RgR m G wr xb aN cN Y) := ⟨zb, zr, zo⟩
          clear zo
          clear zr zk zb
          go_wp2_with fail
          go_meet
          case rel => exact ⟨xb, aN, cN, rfl, HPR⟩
      case rest =>
        obtain ⟨xb, aN, cN, rfl, HPR⟩ := hcut
        obtain ⟨V1, hV1⟩ : ∃ w', w' = wc := ⟨_, rfl⟩
        rw [← hV1] at HPR ⊢
        clear hV1
        replace HS := Lib.hid (HS.out.below HPR.out.bel)
        obtain ⟨⟨p0, p1, p2, p3, p4, p5⟩, _⟩ := rowN6 HPR.out.row
        have HNX : Hid (RgF m (k + 1) aN cN rs (Mn.rest m (Mn.round m G)) V1) := by
          have e1 : Mn.rnds m (k + 1) (Mn.flows m) = Mn.round m G := by rw [Mn.rnds_succ, HGE.out]
          refine ⟨by rw [e1]; exact HPR.out.ow.at_, fun e => ?_, fun e => by omega, fun _ => by rw [e1]⟩
          rcases HPR.out.ow with ⟨_, _, h⟩ | ⟨g, h, _⟩
          · exact h
          · rw [e] at h; cases h
        go_wp2_with fail
        go_roundw
        case rel => exact ⟨k + 1, _, _, _, by omega, by go_num, rfl, rfl, HNX, HS⟩
        case measure => simp [intOf]; omega
    case neg =>
      obtain rfl : k = dn := by omega
      have HFA : Hid (IsAt fa m.pn F wr) := by
        show IsAt _ _ _ _
        have := HFL.out.f
        rw [HDN.out, Mn.sv_rnds, ← HF.out] at this
        exact this
      have HFN := Lib.hid HFL.out.n
      have hr : r = rs := by
        by_cases e : k = 0
        · exact HFL.out.r0 e
        · rw [HFL.out.r1 e, HDN.out, Mn.sv_rnds, HRS.out, HF.out]
      subst hr
      clear HFL
      have hltz : ¬ (k : Int) < (k : Int) := by omega
      have q1 : ¬ rd < (k : Int) := by omega
      have q2 : ¬ (k : Int) < 0 := by omega
      have q3 : (r != r) = false := by simp
      go_wp2_with fail
      refine (nsame_same fa xa m.pn fc xc F _ HFA.out HS.out.f (by have := HRI.out.pn; omega)).mono ?_
      rintro e w9 ⟨rfl, hb⟩
      replace HFA := Lib.hid (HFA.out.below hb)
      replace HS := Lib.hid (HS.out.below hb)
      clear hb p0 p1 p2 p3 p4 p5
      obtain ⟨⟨p0, p1, p2, p3, p4, p5⟩, _⟩ := rowN6 HS.out.r
      go_upto_region 17 with fail
      clear p0 p1 p2 p3 p4 p5 hltz q1 q2 q3
      go_cut [92] (fun v Wq => v = .bool false ∧ Hid (Below w9.heap.size w9 Wq))
      case first =>
        by_cases hlt : (k : Int) < rd
        case pos =>
          refine wp_region_held_drew (S := fun V => Below w9.heap.size w9 V) (by kernel_rfl) (Below.refl _ _).drew (fun hHeld => ?_)
          obtain ⟨Z, hZ⟩ : ∃ Z, Z = w9.drew := ⟨_, rfl⟩
          rw [← hZ] at hHeld ⊢
          clear hZ
          refine take_do (i := 0) (v := (.pointer (some ⟨s5, 3, none⟩))) rfl (by kernel_rfl) (by kernel_rfl) (by kernel_rfl) (fun _ _ _ h => h) (by rfl) ?_ (by assumption) ?_
          · intro w hSw
            skip
            go_simp
          simp only [Act.put, List.setIfInBounds_toArray, List.set_cons_zero, List.set_cons_succ]
          refine take_do (i := 1) (v := (.int .i64 (k))) rfl (by kernel_rfl) (by kernel_rfl) (by kernel_rfl) (fun _ _ _ h => h) (by rfl) ?_ (by assumption) ?_
          · intro w hSw
            obtain ⟨⟨q0, q1, q2, q3, q4, q5⟩, _⟩ := rowN6 (nrow_below HS.out.r hSw)
            go_simp
          simp only [Act.put, List.setIfInBounds_toArray, List.set_cons_zero, List.set_cons_succ]
          refine take_do (i := 2) (v := (.int .i64 (rd))) rfl (by kernel_rfl) (by kernel_rfl) (by kernel_rfl) (fun _ _ _ h => h) (by rfl) ?_ (by assumption) ?_
          · intro w hSw
            skip
            go_simp
          simp only [Act.put, List.setIfInBounds_toArray, List.set_cons_zero, List.set_cons_succ]
          refine take_do (i := 3) (v := (.bool true)) rfl (by kernel_rfl) (by kernel_rfl) (by kernel_rfl) (fun _ _ _ h => h) (by rfl) ?_ (by assumption) ?_
          · intro w hSw
            skip
            go_simp
          simp only [Act.put, List.setIfInBounds_toArray, List.set_cons_zero, List.set_cons_succ]
          refine take_do (i := 4) (v := (.bool true)) rfl (by kernel_rfl) (by kernel_rfl) (by kernel_rfl) (fun _ _ _ h => h) (by rfl) ?_ (by assumption) ?_
          · intro w hSw
            skip
            go_simp
          simp only [Act.put, List.setIfInBounds_toArray, List.set_cons_zero, List.set_cons_succ]
          refine take_do (i := 5) (v := (mnV m pa pk la lk wa wk)) rfl (by kernel_rfl) (by kernel_rfl) (by kernel_rfl) (fun _ _ _ h => h) (by rfl) ?_ (by assumption) ?_
          · intro w hSw
            obtain ⟨⟨q0, q1, q2, q3, q4⟩, _⟩ := rowN5 (nrow_below HS.out.t.row hSw)
            go_simp
          simp only [Act.put, List.setIfInBounds_toArray, List.set_cons_zero, List.set_cons_succ]
          refine take_do (i := 6) (v := (.slice fa m.pn fc)) rfl (by kernel_rfl) (by kernel_rfl) (by kernel_rfl) (fun _ _ _ h => h) (by rfl) ?_ (by assumption) ?_
          · intro w hSw
            skip
            go_simp
          simp only [Act.put, List.setIfInBounds_toArray, List.set_cons_zero, List.set_cons_succ]
          refine take_do (i := 10) (v := (.slice fa m.pn fc)) rfl (by kernel_rfl) (by kernel_rfl) (by kernel_rfl) (fun _ _ _ h => h) (by rfl) ?_ (by assumption) ?_
          · intro w hSw
            skip
            go_simp
          simp only [Act.put, List.setIfInBounds_toArray, List.set_cons_zero, List.set_cons_succ]
          refine take_call (i := 7) rfl (by kernel_rfl) (fun K2 hK => ?_)
          go_simp
          refine (ncopy_any fa m.pn fc F _ (HFA.out.below hHeld) (by have := HRI.out.pn; omega) HFN.out).mono ?_
          rintro e Z1 ⟨⟨gc, cc, rfl, _, hcp⟩, hb⟩
          have HCP := Lib.hid hcp
          clear hcp
          go_wp2_with fail
          refine hK.out _ _ (hHeld.trans (hb.mono hHeld.size)) (fun hHeld2 => ?_)
          clear hK hHeld hb
          have hHeld := hHeld2
          clear hHeld2
          try simp only [Act.put, List.setIfInBounds_toArray, List.set_cons_zero, List.set_cons_succ]
          refine take_call (i := 8) rfl (by kernel_rfl) (fun K2 hK => ?_)
          go_simp
          refine (implRound_any m pa pk la lk wa wk gc m.pn cc F _ (HS.out.t.at_.below hHeld) (at_cells HCP.out) (by have := HRI.out.pn; omega) (HG.out.below (HS.out.t.bel.trans (hHeld.mono HS.out.t.bel.size)))).mono ?_
          rintro e Z2 ⟨hE, hb⟩
          obtain ⟨aN, cN, rfl, hq⟩ : ∃ a c, e = .returned (moV a m.pn c none 0 0 (Mn.rest m (Mn.round m F)) 0 0 0) ∧ OwL 2 0 m.pn a c (Mn.round m F) Z2 := by
            rcases hE with ⟨h, _⟩ | ⟨_, h, _⟩ | ⟨a, c, _, _, _, _, h, hq⟩
            · exact absurd h (by have := HRI.out.pn; omega)
            · exact absurd ⟨HRI.out, rfl, HOK.out⟩ h
            · exact ⟨_, _, h, hq.low (Nat.zero_le _)⟩
          have HOW := Lib.hid hq
          clear hq hE
          go_wp2_with fail
          refine hK.out _ _ (hHeld.trans (hb.mono hHeld.size)) (fun hHeld2 => ?_)
          clear hK hHeld hb
          have hHeld := hHeld2
          clear hHeld2
          try simp only [Act.put, List.setIfInBounds_toArray, List.set_cons_zero, List.set_cons_succ]
          have hfld := mo_flows aN m.pn cN none 0 0 (Mn.rest m (Mn.round m F)) 0 0 0
          refine take_do (i := 9) (v := (.slice aN m.pn cN)) rfl (by kernel_rfl) (by kernel_rfl) (by kernel_rfl) (fun _ _ _ h => h) (by rfl) ?_ (by assumption) ?_
          · intro w hSw
            skip
            go_simp
          simp only [Act.put, List.setIfInBounds_toArray, List.set_cons_zero, List.set_cons_succ]
          clear hfld
          refine take_call (i := 11) rfl (by kernel_rfl) (fun K2 hK => ?_)
          go_simp
          refine (nsame_same aN fa m.pn cN fc F _ (HOW.out.at_.congr (fun i hi => ?_)) (HFA.out.below hHeld) (by have := HRI.out.pn; omega)).mono ?_
          · rw [HF.out]; exact Mn.sv_same HRI.out (by rw [← HDN.out]; exact hlt) i hi
          rintro e Z3 ⟨rfl, hb⟩
          go_wp2_with fail
          refine hK.out _ _ (hHeld.trans (hb.mono hHeld.size)) (fun hHeld2 => ?_)
          clear hK hHeld hb
          have hHeld := hHeld2
          clear hHeld2
          try simp only [Act.put, List.setIfInBounds_toArray, List.set_cons_zero, List.set_cons_succ]
          refine take_do (i := 12) (v := (.bool false)) rfl (by kernel_rfl) (by kernel_rfl) (by kernel_rfl) (fun _ _ _ h => h) (by rfl) ?_ (by assumption) ?_
          · intro w hSw
            skip
            go_simp
          simp only [Act.put, List.setIfInBounds_toArray, List.set_cons_zero, List.set_cons_succ]
          refine take_do (i := 13) (v := (.bool false)) rfl (by kernel_rfl) (by kernel_rfl) (by kernel_rfl) (fun _ _ _ h => h) (by rfl) ?_ (by assumption) ?_
          · intro w hSw
            skip
            go_simp
          simp only [Act.put, List.setIfInBounds_toArray, List.set_cons_zero, List.set_cons_succ]
          refine wpAnyH_done (by kernel_rfl) ?_ _
          have HD := Lib.hid hHeld
          clear hHeld
          go_wp2_with fail
          go_meet
          case rel => exact ⟨rfl, HD⟩
        case neg =>
          have hd : decide ((k : Int) < rd) = false := decide_eq_false hlt
          obtain ⟨⟨p0, p1, p2, p3, p4, p5⟩, _⟩ := rowN6 HS.out.r
          clear hlt
          go_quiet (fail)
          go_wp2_with fail
          go_meet
          case rel => exact ⟨rfl, rfl, rfl, rfl, Nat.le_refl _, fun _ _ => rfl⟩
      case rest =>
        obtain ⟨rfl, hcut⟩ := hcut
        obtain ⟨V1, hV1⟩ : ∃ w', w' = wc := ⟨_, rfl⟩
        rw [← hV1] at hcut ⊢
        clear hV1
        replace HS := Lib.hid (HS.out.below hcut.out)
        clear hcut HFA
        go_wp2_with fail
        refine (lwAt_any a len cap 7 256 _ HS.out.b HLEN.out (by omega) (by omega) (by omega)).mono ?_
        rintro e w10 ⟨⟨v, rfl, v0, v1, _⟩, hw10⟩
        subst hw10
        obtain ⟨q, hq⟩ : ∃ q, q = v * 20 := ⟨_, rfl⟩
        have hq0 : IntKind.i64.wrap (v * 20) = q := by rw [hq]; exact mwrap_id (by omega) (by omega)
        have hq1 : v * 20 = q := hq.symm
        clear hq
        go_upto_region 20 with fail
        clear hq0 hq1 v0 v1
        refine wp_region_held_drew (S := fun V => Below w10.heap.size w10 V) (by kernel_rfl) (Below.refl _ _).drew (fun hHeld => ?_)
        obtain ⟨Z, hZ⟩ : ∃ Z, Z = w10.drew := ⟨_, rfl⟩
        rw [← hZ] at hHeld ⊢
        clear hZ
        refine take_do (i := 0) (v := (mnV m pa pk la lk wa wk)) rfl (by kernel_rfl) (by kernel_rfl) (by kernel_rfl) (fun _ _ _ h => h) (by rfl) ?_ (by assumption) ?_
        · intro w hSw
          obtain ⟨⟨q0, q1, q2, q3, q4⟩, _⟩ := rowN5 (nrow_below HS.out.t.row hSw)
          go_simp
        simp only [Act.put, List.setIfInBounds_toArray, List.set_cons_zero, List.set_cons_succ]
        refine take_do (i := 1) (v := (.pointer (some ⟨s5, 0, none⟩))) rfl (by kernel_rfl) (by kernel_rfl) (by kernel_rfl) (fun _ _ _ h => h) (by rfl) ?_ (by assumption) ?_
        · intro w hSw
          skip
          go_simp
        simp only [Act.put, List.setIfInBounds_toArray, List.set_cons_zero, List.set_cons_succ]
        refine take_do (i := 2) (v := (.slice xa m.pn xc)) rfl (by kernel_rfl) (by kernel_rfl) (by kernel_rfl) (fun _ _ _ h => h) (by rfl) ?_ (by assumption) ?_
        · intro w hSw
          obtain ⟨⟨q0, q1, q2, q3, q4, q5⟩, _⟩ := rowN6 (nrow_below HS.out.r hSw)
          go_simp
        simp only [Act.put, List.setIfInBounds_toArray, List.set_cons_zero, List.set_cons_succ]
        refine take_do (i := 4) (v := (.int .i64 (q))) rfl (by kernel_rfl) (by kernel_rfl) (by kernel_rfl) (fun _ _ _ h => h) (by rfl) ?_ (by assumption) ?_
        · intro w hSw
          skip
          go_simp
        simp only [Act.put, List.setIfInBounds_toArray, List.set_cons_zero, List.set_cons_succ]
        refine take_call (i := 3) rfl (by kernel_rfl) (fun K2 hK => ?_)
        go_simp
        refine (ncopy_any xa m.pn xc F _ (HS.out.f.below hHeld) (by have := HRI.out.pn; omega) HXN.out).mono ?_
        rintro e Y1 ⟨⟨gc, cc, rfl, _, hcp⟩, hb⟩
        have HCP := Lib.hid hcp
        clear hcp
        go_wp2_with fail
        refine hK.out _ _ (hHeld.trans (hb.mono hHeld.size)) (fun hHeld2 => ?_)
        clear hK hHeld hb
        have hHeld := hHeld2
        clear hHeld2
        try simp only [Act.put, List.setIfInBounds_toArray, List.set_cons_zero, List.set_cons_succ]
        refine take_call (i := 5) rfl (by kernel_rfl) (fun K2 hK => ?_)
        go_simp
        refine (ilow_any m pa pk la lk wa wk gc m.pn cc F q _ (HS.out.t.at_.below hHeld) (at_cells HCP.out) (by have := HRI.out.pn; omega)).mono ?_
        rintro e Y2 ⟨⟨l, ga, gcc, hlow, rfl, how⟩, hb⟩
        have HLA := Lib.hid how.at_
        have HLL : Hid (l = Mn.lowTo HH q N ∧ l.length ≤ 12) := by
          refine ⟨?_, hlow.len⟩
          rw [HHH.out, HN.out]
          exact hlow.one (.ok ⟨by have := HRI.out.pn; omega, HRI.out, rfl, HOK.out, HST.out⟩)
        clear hlow how
        go_wp2_with fail
        refine hK.out _ _ (hHeld.trans (hb.mono hHeld.size)) (fun hHeld2 => ?_)
        clear hK hHeld hb
        have hHeld := hHeld2
        clear hHeld2
        try simp only [Act.put, List.setIfInBounds_toArray, List.set_cons_zero, List.set_cons_succ]
        refine take_do (i := 6) (v := (.slice ga l.length gcc)) rfl (by kernel_rfl) (by kernel_rfl) (by kernel_rfl) (fun _ _ _ h => h) (by rfl) ?_ (by assumption) ?_
        · intro w hSw
          skip
          go_simp
        simp only [Act.put, List.setIfInBounds_toArray, List.set_cons_zero, List.set_cons_succ]
        refine wpAnyH_done (by kernel_rfl) ?_ _
        replace HS := Lib.hid (HS.out.below hHeld)
        clear hHeld HCP
        have hN12 : N ≤ 12 := HNN.out.2.2.1
        go_wp2_with fail
        go_loopw [12] (fun iv wx => ∃ (i : Nat), i ≤ N ∧ iv = .int .i64 i ∧ Hid (Below Y2.heap.size Y2 wx)) (fun iv _ => N - (intOf iv).toNat)
        case atStart => exact ⟨0, Nat.zero_le _, rfl, Below.refl _ _⟩
        case round =>
          obtain ⟨i, hi, rfl, HB⟩ := hrel
          obtain ⟨V2, hV2⟩ : ∃ w', w' = wr := ⟨_, rfl⟩
          rw [← hV2] at HB ⊢
          clear hV2
          replace HS := Lib.hid (HS.out.below HB.out)
          replace HLA := Lib.hid (HLA.out.below HB.out)
          obtain ⟨⟨p0, p1, p2, p3, p4, p5⟩, _⟩ := rowN6 HS.out.r
          by_cases hin : i < N
          case pos =>
            have hinz : (i : Int) < (N : Int) := by omega
            obtain ⟨by_, ey, _⟩ := HS.out.h.at1 hin
            subst ey
            go_upto_region 24 with fail
            clear p0 p1 p2 p3 p4 p5
            refine wp_region_held_drew (S := fun V => Below V2.heap.size V2 V) (by kernel_rfl) (Below.refl _ _).drew (fun hHeld => ?_)
            obtain ⟨Z, hZ⟩ : ∃ Z, Z = V2.drew := ⟨_, rfl⟩
            rw [← hZ] at hHeld ⊢
            clear hZ
            refine take_do (i := 0) (v := (.pointer (some ⟨s5, 1, none⟩))) rfl (by kernel_rfl) (by kernel_rfl) (by kernel_rfl) (fun _ _ _ h => h) (by rfl) ?_ (by assumption) ?_
            · intro w hSw
              skip
              go_simp
            simp only [Act.put, List.setIfInBounds_toArray, List.set_cons_zero, List.set_cons_succ]
            refine take_do (i := 1) (v := (.slice (some ⟨by_, 0, none⟩) N yc)) rfl (by kernel_rfl) (by kernel_rfl) (by kernel_rfl) (fun _ _ _ h => h) (by rfl) ?_ (by assumption) ?_
            · intro w hSw
              obtain ⟨⟨q0, q1, q2, q3, q4, q5⟩, _⟩ := rowN6 (nrow_below HS.out.r hSw)
              go_simp
            simp only [Act.put, List.setIfInBounds_toArray, List.set_cons_zero, List.set_cons_succ]
            refine take_do (i := 2) (v := (.int .i64 (i))) rfl (by kernel_rfl) (by kernel_rfl) (by kernel_rfl) (fun _ _ _ h => h) (by rfl) ?_ (by assumption) ?_
            · intro w hSw
              skip
              go_simp
            simp only [Act.put, List.setIfInBounds_toArray, List.set_cons_zero, List.set_cons_succ]
            refine take_do (i := 3) (v := (.pointer (some ⟨by_, i, none⟩))) rfl (by kernel_rfl) (by kernel_rfl) (by kernel_rfl) (fun _ _ _ h => h) (by rfl) ?_ (by assumption) ?_
            · intro w hSw
              skip
              go_simp
            simp only [Act.put, List.setIfInBounds_toArray, List.set_cons_zero, List.set_cons_succ]
            refine take_do (i := 4) (v := (.int .i64 (HH i))) rfl (by kernel_rfl) (by kernel_rfl) (by kernel_rfl) (fun _ _ _ h => h) (by rfl) ?_ (by assumption) ?_
            · intro w hSw
              obtain ⟨b9, e9, c9⟩ := (HS.out.h.below hSw).at1 hin
              cases e9
              go_simp
            simp only [Act.put, List.setIfInBounds_toArray, List.set_cons_zero, List.set_cons_succ]
            refine take_do (i := 5) (v := (.int .i64 (q))) rfl (by kernel_rfl) (by kernel_rfl) (by kernel_rfl) (fun _ _ _ h => h) (by rfl) ?_ (by assumption) ?_
            · intro w hSw
              skip
              go_simp
            simp only [Act.put, List.setIfInBounds_toArray, List.set_cons_zero, List.set_cons_succ]
            refine take_do (i := 6) (v := (.bool (decide (HH i < q)))) rfl (by kernel_rfl) (by kernel_rfl) (by kernel_rfl) (fun _ _ _ h => h) (by rfl) ?_ (by assumption) ?_
            · intro w hSw
              skip
              go_simp
            simp only [Act.put, List.setIfInBounds_toArray, List.set_cons_zero, List.set_cons_succ]
            refine take_do (i := 7) (v := (.slice ga l.length gcc)) rfl (by kernel_rfl) (by kernel_rfl) (by kernel_rfl) (fun _ _ _ h => h) (by rfl) ?_ (by assumption) ?_
            · intro w hSw
              skip
              go_simp
            simp only [Act.put, List.setIfInBounds_toArray, List.set_cons_zero, List.set_cons_succ]
            refine take_do (i := 8) (v := (.int .i64 (i))) rfl (by kernel_rfl) (by kernel_rfl) (by kernel_rfl) (fun _ _ _ h => h) (by rfl) ?_ (by assumption) ?_
            · intro w hSw
              skip
              go_simp
            simp only [Act.put, List.setIfInBounds_toArray, List.set_cons_zero, List.set_cons_succ]
            refine take_call (i := 9) rfl (by kernel_rfl) (fun K2 hK => ?_)
            go_simp
            refine (nhas_any ga l.length gcc (natI l) i (decide (HH i < q)) _ (HLA.out.below hHeld) (by have := HLL.out.2; omega) ?_).mono ?_
            · rw [nat_mem, HLL.out.1, Mn.mem_low, decide_eq_true_eq]
              exact ⟨fun h => ⟨hin, h⟩, fun h => h.2⟩
            rintro e Z1 ⟨rfl, hw⟩
            subst hw
            have hb : Below Z1.heap.size Z1 Z1 := Below.refl _ _
            go_wp2_with fail
            refine hK.out _ _ (hHeld.trans (hb.mono hHeld.size)) (fun hHeld2 => ?_)
            clear hK hHeld hb
            have hHeld := hHeld2
            clear hHeld2
            try simp only [Act.put, List.setIfInBounds_toArray, List.set_cons_zero, List.set_cons_succ]
            refine take_do (i := 10) (v := (.bool false)) rfl (by kernel_rfl) (by kernel_rfl) (by kernel_rfl) (fun _ _ _ h => h) (by rfl) ?_ (by assumption) ?_
            · intro w hSw
              have j0 : (decide (HH i < q) != decide (HH i < q)) = false := by simp
              go_simp
            simp only [Act.put, List.setIfInBounds_toArray, List.set_cons_zero, List.set_cons_succ]
            refine wpAnyH_done (by kernel_rfl) ?_ _
            have HD : Hid (Below Y2.heap.size Y2 _) := HB.out.trans (hHeld.mono HB.out.size)
            clear hHeld
            go_wp2_with fail
            go_roundw
            case rel => exact ⟨i + 1, by omega, by go_num, HD⟩
            case measure => simp [intOf]; omega
          case neg =>
            obtain rfl : i = N := by omega
            obtain ⟨⟨o0, o1, o2, o3, o4⟩, _⟩ := rowN5 HS.out.t.row
            have hnz : ((i : Int) == m.nodes) = true := by rw [HNN.out.1]; simp
            go_wp2_with fail
            go_ret
            exact ⟨rfl, HS.out.t.bel⟩
end Go.Proofs.YtfgmalnkpgloiaaGreatDoor
