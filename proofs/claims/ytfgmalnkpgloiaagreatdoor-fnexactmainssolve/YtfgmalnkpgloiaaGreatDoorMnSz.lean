/-
  Mains solved: rounds till nothing changes, the program, the model, that both answer so.
-/
import Derived.Test.YtfgmalnkpgloiaaGreatDoorMnP6
import Derived.Test.YtfgmalnkpgloiaaGreatDoorMnP2
import Derived.Test.YtfgmalnkpgloiaaGreatDoorMnTl
import Derived.Test.YtfgmalnkpgloiaaGreatDoorMnV3
import Derived.Test.YtfgmalnkpgloiaaGreatDoorMnAnS
import Derived.Test.YtfgmalnkpgloiaaGreatDoorMnV4
namespace Go.Proofs.YtfgmalnkpgloiaaGreatDoor.Mn
/-- Are the first n alike? -/
def sameB (f g : Nat → Int) : Nat → Bool
  | 0 => true
  | k + 1 => sameB f g k && decide (f k = g k)
theorem sameB_no {f g : Nat → Int} {n k : Nat} (hk : k < n) (h : f k ≠ g k) : sameB f g n = false := by
  induction n with
  | zero => omega
  | succ n ih =>
    show (sameB f g n && decide (f n = g n)) = false
    by_cases e : k = n
    · subst e; rw [decide_eq_false h, Bool.and_false]
    · rw [ih (by omega), Bool.false_and]
/-- Rounds, r at most, d of them done ahead. -/
def setl (m : Mains) : Nat → (Nat → Int) → Nat → (Nat → Int) × Nat
  | 0, f, d => (f, d)
  | r + 1, f, d => if sameB (round m f) f m.pn then (round m f, d + 1) else setl m r (round m f) (d + 1)
theorem setl_ok {m : Mains} (hr : Right m) : ∀ (r : Nat) (f : Nat → Int) (d : Nat), AllOk m f → AllOk m (setl m r f d).1
  | 0, _, _, h => h
  | r + 1, f, d, h => by
    have h1 : AllOk m (round m f) := roundTo_ok hr h _ (Nat.le_refl _)
    unfold setl
    split
    · exact h1
    · exact setl_ok hr r _ _ h1
theorem setl_le {m : Mains} : ∀ (r : Nat) (f : Nat → Int) (d : Nat), (setl m r f d).2 ≤ d + r
  | 0, _, _ => Nat.le_refl _
  | r + 1, f, d => by
    unfold setl
    split
    · show d + 1 ≤ _; omega
    · have := setl_le (m := m) r (round m f) (d + 1); omega
theorem Start.outOk {m : Mains} {c a : Int} (h : Start m c a) (hc : c = 0) : OutAt (fin m).1 (nn m) (-1) := by
  cases h with
  | form => omega
  | none => omega
  | over => omega
  | ok h1 h2 h3 => exact h2
theorem Start.rightOk {m : Mains} {c a : Int} (h : Start m c a) (hc : c = 0) : Right m ∧ AllOk m (flows m) := by
  cases h with
  | form => omega
  | none => omega
  | over => omega
  | ok h1 h2 h3 =>
    refine ⟨h1, ?_⟩
    rcases h3 with ⟨i, _, h4, _⟩ | ⟨_, h4⟩
    · omega
    · exact h4
end Go.Proofs.YtfgmalnkpgloiaaGreatDoor.Mn
namespace Go.Proofs.YtfgmalnkpgloiaaGreatDoor
open Go.RowKit Go.Deep
set_option maxRecDepth 100000 in
set_option maxHeartbeats 2000000 in
theorem equal_any (a b : Option Addr) (n ca cb : Nat) (f g : Nat → Int) (w : World) (h1 : IsAt a n f w) (h2 : IsAt b n g w) (hn : n ≤ 1048576) :
    Calls Tryz.prog 84 #[.slice a n ca, .slice b n cb] w fun e w' => e = .returned (.bool (Mn.sameB f g n)) ∧ Below w.heap.size w w' := by
  have hne : ((n : Int) != (n : Int)) = false := by simp
  have H1 := Lib.hid h1
  have H2 := Lib.hid h2
  clear h1 h2
  go_enter Tryz.func84, Tryz.ntmps84
  go_wp2_with fail
  go_loopw [13] (fun iv wr => ∃ (i : Nat), i ≤ n ∧ iv = .int .i64 i ∧ Mn.sameB f g i = true ∧ Hid (Below w.heap.size w wr)) (fun iv _ => n - (intOf iv).toNat)
  case atStart => exact ⟨0, Nat.zero_le _, rfl, rfl, Below.refl _ _⟩
  case round =>
    obtain ⟨i, hi, rfl, hsm, hB⟩ := hrel
    by_cases hlt : i < n
    · have hltz : (i : Int) < (n : Int) := by omega
      have hi00 : (0 : Int) ≤ (i : Int) := by omega
      obtain ⟨g1, rfl, k1⟩ := (H1.out.below hB.out).at1 hlt
      obtain ⟨g2, rfl, k2⟩ := (H2.out.below hB.out).at1 hlt
      by_cases hq : f i = g i
      · have HY : Hid (Mn.sameB f g (i + 1) = true) := by show (Mn.sameB f g i && decide (f i = g i)) = true; rw [hsm, decide_eq_true hq]; rfl
        have hq2 : (f i != g i) = false := by simp [hq]
        rw [hq] at k1
        clear hq
        go_wp2_with fail
        go_quiet (fail)
        go_wp2_with fail
        go_roundw
        case rel => exact ⟨i + 1, by omega, by go_num, HY.out, ndrewN hB.out _⟩
        case measure => simp [intOf]; omega
      · have HN : Hid (Mn.sameB f g n = false) := Mn.sameB_no hlt hq
        have hq2 : (f i != g i) = true := by simp [hq]
        go_wp2_with fail
        go_quiet (fail)
        go_wp2_with fail
        go_ret
        exact ⟨by rw [HN.out]; rfl, ndrewN hB.out _⟩
    · obtain rfl : n = i := by omega
      go_wp2_with fail
      go_ret
      exact ⟨by rw [hsm]; rfl, hB.out⟩
/-- What stands from round to round. -/
structure SeS (m : Mn.Mains) (la : Option Addr) (lk gk gf fc : Nat) (F : Nat → Int) (w W : World) : Prop where
  row : W.rowIs w.heap.size 70 3 (rowN [.slice la m.ln lk, .slice (some ⟨gk, 0, none⟩) m.pn m.pn, .slice (some ⟨gf, 0, none⟩) m.pn fc])
  fl : IsBlk 2 gf m.pn F W
  k : KdBlk gk m W
  fr : Fr gf w W
theorem SeS.below {m : Mn.Mains} {la : Option Addr} {lk gk gf fc : Nat} {F : Nat → Int} {w W W' : World} (h : SeS m la lk gk gf fc F w W) (hb : Below W.heap.size W W') : SeS m la lk gk gf fc F w W' := ⟨nrow_below h.row hb, h.fl.below hb, h.k.below hb, h.fr.below hb⟩
theorem Fr.trans {g : Nat} {a b c : World} (h : Fr g a b) (k : Fr g b c) : Fr g a c := ⟨k.os.trans h.os, k.tape.trans h.tape, k.output.trans h.output, Nat.le_trans h.size k.size, fun j hj hne => (k.block j (Nat.lt_of_lt_of_le hj h.size) hne).trans (h.block j hj hne)⟩
set_option maxRecDepth 100000 in
set_option maxHeartbeats 2000000 in
theorem settle_any (m : Mn.Mains) (la : Option Addr) (lk gk gf fc : Nat) (f : Nat → Int) (R : Nat) (b w : World) (hb : Below b.heap.size b w) (hl : LsAt la m.ln m.LN m.L b) (hgf : b.heap.size ≤ gf) (hk : KdBlk gk m w) (hne : gk ≠ gf) (hf : IsBlk 2 gf m.pn f w) (hr : Mn.Right m) (ho : Mn.AllOk m f) (hR : R ≤ 100) :
    Calls Tryz.prog 67 #[rmV la m.ln lk gk m.pn (some ⟨gf, 0, none⟩) fc, .int .i64 R] w fun e w' => e = .returned (.int .i64 ((Mn.setl m R f 0).2 : Nat)) ∧ IsBlk 2 gf m.pn (Mn.setl m R f 0).1 w' ∧ Fr gf w w' := by
  have hpn := hr.pn
  have ST : Hid (SeS m la lk gk gf fc f w (w.alloc (.cells #[.slice la m.ln lk, .slice (some ⟨gk, 0, none⟩) m.pn m.pn, .slice (some ⟨gf, 0, none⟩) m.pn fc] 70))) := ⟨rowN_alloc w [.slice la m.ln lk, .slice (some ⟨gk, 0, none⟩) m.pn m.pn, .slice (some ⟨gf, 0, none⟩) m.pn fc] _, hf.below (nbel_alloc _ _), hk.below (nbel_alloc _ _), Fr.below ⟨rfl, rfl, rfl, Nat.le_refl _, fun _ _ _ => rfl⟩ (nbel_alloc _ _)⟩
  have HB := Lib.hid hb
  have HL := Lib.hid hl
  have HGF := Lib.hid hgf
  have HNE := Lib.hid hne
  have HR := Lib.hid hr
  have HO := Lib.hid ho
  have HPN : Hid (m.pn ≤ 1048576) := by show _ ≤ _; omega
  have HGW : Hid (gf < w.heap.size) := hf.lt
  clear hb hl hgf hk hne hf hr ho hpn
  go_enter Tryz.func67, Tryz.ntmps67
  go_wp2_with fail
  go_loopw [8] (fun iv wr => ∃ (d : Nat) (F : Nat → Int), d ≤ R ∧ iv = .int .i64 d ∧ Hid (Mn.setl m R f 0 = Mn.setl m (R - d) F d ∧ Mn.AllOk m F ∧ SeS m la lk gk gf fc F w wr)) (fun iv _ => R - (intOf iv).toNat)
  case atStart => exact ⟨0, f, Nat.zero_le _, rfl, rfl, HO.out, ST.out⟩
  case round =>
    obtain ⟨d, F, hd, rfl, HS⟩ := hrel
    clear ST
    have hd0 : (0 : Int) ≤ (d : Int) := by omega
    by_cases hlt : d < R
    · have hltz : (d : Int) < (R : Int) := by omega
      obtain ⟨⟨r0, r1, r2⟩, _⟩ := rowN3 HS.out.2.2.row
      go_wp2_with fail
      clear r0 r1 r2
      refine (mclone_any gf m.pn fc F wr (fun i hi => HS.out.2.2.fl.cell hi) HPN.out).mono ?_
      rintro e w1 ⟨⟨a, c, rfl, how⟩, hb1⟩
      have S1 := Lib.hid (HS.out.2.2.below hb1)
      have O1 := Lib.hid how
      have HGA : Hid (∀ k, a = some ⟨k, 0, none⟩ → k ≠ gf) := fun k e => by
        have h1 := (how.lt e).1
        have h2 := HS.out.2.2.fr.size
        have h3 := HGW.out
        omega
      obtain ⟨⟨r0, r1, r2⟩, _⟩ := rowN3 S1.out.row
      clear how hb1
      go_wp2_with fail
      clear r0 r1 r2
      refine (round_any m la lk gk gf fc F b w1 (S1.out.fr.old HB.out HGF.out) HL.out HGF.out S1.out.k HNE.out S1.out.fl HR.out HS.out.2.1).mono ?_
      rintro e w2 ⟨rfl, hfl, hfr⟩
      have S2 : Hid (SeS m la lk gk gf fc (Mn.round m F) w w2) := ⟨S1.out.row.of_block (hfr.block _ S1.out.row.lt (by have := HGW.out; omega)), hfl, S1.out.k.block (hfr.block _ S1.out.k.lt HNE.out), S1.out.fr.trans hfr⟩
      have O2 := Lib.hid (O1.out.keep (fun k e hk => hfr.block k hk (HGA.out k e)))
      have HOK : Hid (Mn.AllOk m (Mn.round m F)) := Mn.roundTo_ok HR.out HS.out.2.1 _ (Nat.le_refl _)
      obtain ⟨⟨r0, r1, r2⟩, _⟩ := rowN3 S2.out.row
      clear hfl hfr S1 O1
      go_wp2_with fail
      clear r0 r1 r2
      refine (equal_any _ _ _ _ _ _ F _ S2.out.fl.at_ O2.out.at_ HPN.out).mono ?_
      rintro e w3 ⟨rfl, hb3⟩
      have S3 := Lib.hid (S2.out.below hb3)
      clear hb3 S2 O2
      obtain ⟨r, hr⟩ : ∃ r, R - d = r + 1 := ⟨R - d - 1, by omega⟩
      cases hsm : Mn.sameB (Mn.round m F) F m.pn
      · have HE : Hid (Mn.setl m R f 0 = Mn.setl m (R - (d + 1)) (Mn.round m F) (d + 1)) := by
          show _ = _
          rw [HS.out.1, hr]
          have : R - (d + 1) = r := by omega
          rw [this]
          simp only [Mn.setl, hsm, Bool.false_eq_true, if_false]
        go_wp2_with fail
        go_roundw
        case rel => exact ⟨d + 1, Mn.round m F, by omega, by go_num, HE.out, HOK.out, S3.out⟩
        case measure => simp [intOf]; omega
      · have HE : Hid (Mn.setl m R f 0 = (Mn.round m F, d + 1)) := by
          show _ = _
          rw [HS.out.1, hr]
          simp only [Mn.setl, hsm, if_true]
        go_wp2_with fail
        go_ret
        rw [HE.out]
        exact ⟨by simp, S3.out.fl, S3.out.fr⟩
    · obtain rfl : R = d := by omega
      have HE : Hid (Mn.setl m R f 0 = (F, R)) := by
        show _ = _
        rw [HS.out.1, Nat.sub_self]
        rfl
      go_wp2_with fail
      go_ret
      rw [HE.out]
      exact ⟨by simp, HS.out.2.2.fl, HS.out.2.2.fr⟩
end Go.Proofs.YtfgmalnkpgloiaaGreatDoor
namespace Go.Proofs.YtfgmalnkpgloiaaGreatDoor
open Go.RowKit Go.Deep
theorem kdNe {m : Mn.Mains} {gk g n : Nat} {f : Nat → Int} {w : World} (hk : KdBlk gk m w) (hf : IsBlk 2 g n f w) : gk ≠ g := by
  rintro rfl
  obtain ⟨F, ⟨c1, e1, _⟩, _⟩ := hk
  obtain ⟨_, _, _, ⟨c2, e2, _⟩, _⟩ := hf
  rw [e1] at e2
  cases e2
/-- Where nothing is solved: the code and the place. -/
def NoSv (m : Mn.Mains) (R c a : Int) : Prop := (¬ (0 ≤ R ∧ R ≤ 100) ∧ c = 1 ∧ a = 0) ∨ ((0 ≤ R ∧ R ≤ 100) ∧ Mn.Start m c a ∧ c ≠ 0)
def svF (m : Mn.Mains) (R : Int) : Nat → Int := (Mn.setl m R.toNat (Mn.flows m) 0).1
def svD (m : Mn.Mains) (R : Int) : Nat := (Mn.setl m R.toNat (Mn.flows m) 0).2
inductive SoEnd (m : Mn.Mains) (R : Int) (B : Nat) (e : Ending) (W : World) : Prop
  | no (c a : Int) (y : Value) : NoSv m R c a → AsFinds y c → StFinds y a → e = .returned (.tuple #[moV none 0 0 none 0 0 0 0 0 0, .iface 107 y]) → SoEnd m R B e W
  | ok (gf gh : Nat) : (0 ≤ R ∧ R ≤ 100) → Mn.Start m 0 0 → e = .returned (.tuple #[moV (some ⟨gf, 0, none⟩) m.pn m.pn (some ⟨gh, 0, none⟩) (Mn.nn m) (Mn.nn m) (Mn.rest m (svF m R)) (svD m R : Nat) 0 0, .nilIface]) → IsBlk 2 gf m.pn (svF m R) W → IsBlk 2 gh (Mn.nn m) (Mn.heads m (svF m R)) W → B ≤ gf → B ≤ gh → gf ≠ gh → SoEnd m R B e W
theorem errS_wrap {ev : Value} {c a : Int} (s0 : ByteArray) (h : ErrS ev c a) : (∃ y, ev = .iface 107 y) ∧ AsFinds (.agg #[.string s0, ev]) c ∧ StFinds (.agg #[.string s0, ev]) a := by
  rcases h with ⟨s, rfl, rfl⟩ | ⟨s, rfl⟩
  · exact ⟨⟨_, rfl⟩, finds_two s0 s c, st_ddr s0 s c⟩
  · exact ⟨⟨_, rfl⟩, finds_ddsr s0 s a c, st_dds s0 s a c⟩
/-- What stands behind the start. -/
structure SvQ (m : Mn.Mains) (pa : Option Addr) (pk : Nat) (la : Option Addr) (lk : Nat) (wa : Option Addr) (wk : Nat) (X gk gf : Nat) (tv : Value) (F : Nat → Int) (w W : World) : Prop where
  row : W.rowIs w.heap.size 27 5 (rowN (mnL m pa pk la lk wa wk))
  res : W.rowIs (w.heap.size + 1) 31 6 (rowN (moL none 0 0 none 0 0 0 0 0 0))
  r6 : W.rowIs X 70 3 (rowN [.slice la m.ln lk, .slice (some ⟨gk, 0, none⟩) m.pn m.pn, .slice (some ⟨gf, 0, none⟩) m.pn m.pn])
  k : KdBlk gk m W
  fl : IsBlk 2 gf m.pn F W
  tr : TrAt m tv (Mn.fin m).2 W
  at_ : MnAt m pa la wa W
  old : Below w.heap.size w W
theorem SvQ.below {m : Mn.Mains} {pa : Option Addr} {pk : Nat} {la : Option Addr} {lk : Nat} {wa : Option Addr} {wk : Nat} {X gk gf : Nat} {tv : Value} {F : Nat → Int} {w W W' : World} (h : SvQ m pa pk la lk wa wk X gk gf tv F w W) (hb : Below W.heap.size W W') : SvQ m pa pk la lk wa wk X gk gf tv F w W' := ⟨nrow_below h.row hb, nrow_below h.res hb, nrow_below h.r6 hb, h.k.below hb, h.fl.below hb, h.tr.below hb, h.at_.below hb, h.old.trans (hb.mono h.old.size)⟩
theorem TrAt.fr {m : Mn.Mains} {tv : Value} {l : List (Nat × Bool)} {gf : Nat} {W W' : World} (h : TrAt m tv l W) (hn : TrNe tv gf) (hf : Fr gf W W') : TrAt m tv l W' := by
  obtain ⟨a, c, e, hq⟩ := h
  refine ⟨a, c, e, ?_⟩
  rcases hq with hq | ⟨g, eg, hg, hc⟩
  · exact Or.inl hq
  · by_cases hl : l = []
    · exact Or.inl hl
    right
    have hne : g ≠ gf := hn g l.length c (by rw [e, eg]) (by intro h0; exact hl (List.eq_nil_of_length_eq_zero h0))
    refine ⟨g, eg, Nat.lt_of_lt_of_le hg hf.size, fun k x hx => ?_⟩
    have cc : ∀ o, W'.cell? ⟨g, o, none⟩ = W.cell? ⟨g, o, none⟩ := fun o => by
      unfold World.cell?
      rw [hf.block g hg hne]
    have := hc k x hx
    rw [cc, cc, cc, cc]
    exact this
theorem SvQ.fr {m : Mn.Mains} {pa : Option Addr} {pk : Nat} {la : Option Addr} {lk : Nat} {wa : Option Addr} {wk : Nat} {X gk gf : Nat} {tv : Value} {F F' : Nat → Int} {w W W' : World} (h : SvQ m pa pk la lk wa wk X gk gf tv F w W) (hfl : IsBlk 2 gf m.pn F' W') (hf : Fr gf W W') (hg : w.heap.size + 2 ≤ gf) (hX : X ≠ gf) (hk : gk ≠ gf) (hn : TrNe tv gf) (h0 : MnAt m pa la wa w) : SvQ m pa pk la lk wa wk X gk gf tv F' w W' := by
  have hold : Below w.heap.size w W' := hf.old h.old (by omega)
  exact ⟨h.row.of_block (hf.block _ h.row.lt (by omega)), h.res.of_block (hf.block _ h.res.lt (by omega)), h.r6.of_block (hf.block _ h.r6.lt hX), h.k.block (hf.block _ h.k.lt hk), hfl, h.tr.fr hn hf, h0.below hold, hold⟩
set_option maxRecDepth 100000 in
set_option maxHeartbeats 2000000 in
theorem solveMains_any (m : Mn.Mains) (pa : Option Addr) (pk : Nat) (la : Option Addr) (lk : Nat) (wa : Option Addr) (wk : Nat) (R : Int) (w : World) (h : MnAt m pa la wa w) :
    Calls Tryz.prog 36 #[mnV m pa pk la lk wa wk, .int .i64 R] w fun e w' => SoEnd m R w.heap.size e w' ∧ Below w.heap.size w w' := by
  obtain ⟨W0, hW0⟩ : ∃ W0, W0 = (w.alloc (.cells #[.int .i64 m.nodes, .int .i64 m.head, .slice pa m.pn pk, .slice la m.ln lk, .slice wa m.wn wk] 27)).alloc (.cells #[.slice none 0 0, .slice none 0 0, .int .i64 0, .int .i64 0, .int .i64 0, .int .i64 0] 31) := ⟨_, rfl⟩
  have S0 : Hid (MsS m pa pk la lk wa wk w W0) := by
    show MsS _ _ _ _ _ _ _ _ _
    rw [hW0]
    exact ⟨nrow_below (rowN_alloc w _ _) (nbel_alloc _ _), rowN_alloc' (by simp) _ _, (h.below (nbel_alloc _ _)).below (nbel_alloc _ _), mbel2 _ _ _⟩
  have HSZ : Hid (W0.heap.size = w.heap.size + 2) := by show _ = _; rw [hW0]; simp
  have HW0 := Lib.hid hW0
  have HA := Lib.hid h
  clear h hW0
  by_cases hR : 0 ≤ R ∧ R ≤ 100
  case neg =>
    have HB : Hid (false = true ↔ (0 ≤ R ∧ R ≤ 100)) := ⟨fun h => (by cases h), fun h => absurd h hR⟩
    have HN : Hid (NoSv m R 1 0) := Or.inl ⟨hR, rfl, rfl⟩
    have D := Lib.hid (set6_done S0.out.res rfl S0.out.old (by omega) (.slice none 0 0) (.slice none 0 0) (.int .i64 0) (.int .i64 0) (.int .i64 0) (.int .i64 0))
    clear hR
    go_enter Tryz.func36, Tryz.ntmps36
    go_wp2_with fail
    rw [← HW0.out]
    refine (nwithin_any R 100 false HB.out _).mono ?_
    rintro e w' ⟨rfl, hw⟩
    subst w'
    obtain ⟨⟨x0, x1, x2, x3, x4, x5⟩, z0, z1, z2, z3, z4, z5⟩ := rowN6 S0.out.res
    have lx := S0.out.res.lt
    go_wp2_with fail
    obtain ⟨⟨q0, q1, q2, q3, q4, q5⟩, _⟩ := rowN6 D.out.1
    unfold set6 at q0 q1 q2 q3 q4 q5
    refine bodyPost_ret (v := .tuple #[moV none 0 0 none 0 0 0 0 0 0, errV ⟨#[114, 111, 117, 110, 100, 115]⟩ 1]) ?_ rfl ⟨SoEnd.no 1 0 _ HN.out (finds_one _ 1) (st_dr _ 1) rfl, ?_⟩
    · simp only [results, Tryz.results36]
      simp [go_sem, q0, q1, q2, q3, q4, q5]
    · have := D.out.2.1
      unfold set6 at this
      exact this
  case pos =>
  have HR := Lib.hid hR
  clear hR
  go_enter Tryz.func36, Tryz.ntmps36
  go_wp2_with fail
  rw [← HW0.out]
  refine (nwithin_any R 100 true ⟨fun _ => HR.out, fun _ => rfl⟩ _).mono ?_
  rintro e w' ⟨rfl, hw⟩
  subst w'
  obtain ⟨⟨r0, r1, r2, r3, r4⟩, _⟩ := rowN5 S0.out.row
  go_wp2_with fail
  clear r0 r1 r2 r3 r4
  refine (startMains_any m pa pk la lk wa wk _ S0.out.at_).mono ?_
  rintro e w1 ⟨hE, hb⟩
  have S1 := Lib.hid (S0.out.below hb)
  have B1 : Hid (Below W0.heap.size W0 w1) := hb
  clear hb
  rcases hE with ⟨c, a, ev, hst, hc0, hev, rfl⟩ | ⟨gk, gf, tv, hst, rfl, hkd, hfl, htr, hgk, hgf, htn⟩
  · obtain ⟨⟨y, rfl⟩, hA, hS⟩ := errS_wrap ⟨#[116, 104, 101, 32, 115, 116, 97, 114, 116]⟩ hev
    have HN : Hid (NoSv m R c a) := Or.inr ⟨HR.out, hst, hc0⟩
    have HAF := Lib.hid hA
    have HSF := Lib.hid hS
    have D0 := set6_done S1.out.res rfl S1.out.old (by omega) (.slice none 0 0) (.slice none 0 0) (.int .i64 0) (.int .i64 0) (.int .i64 0) (.int .i64 0)
    have D : Hid (World.rowIs ((set6 w1 (w.heap.size + 1) (.slice none 0 0) (.slice none 0 0) (.int .i64 0) (.int .i64 0) (.int .i64 0) (.int .i64 0)).alloc (.cells #[.slice none 0 0, .slice none 0 0, .slice none 0 0] 70)) (w.heap.size + 1) 31 6 (rowN (moL none 0 0 none 0 0 0 0 0 0)) ∧ Below w.heap.size w ((set6 w1 (w.heap.size + 1) (.slice none 0 0) (.slice none 0 0) (.int .i64 0) (.int .i64 0) (.int .i64 0) (.int .i64 0)).alloc (.cells #[.slice none 0 0, .slice none 0 0, .slice none 0 0] 70))) := ⟨nrow_below D0.1 (nbel_alloc _ _), D0.2.1.trans ((nbel_alloc _ _).mono D0.2.1.size)⟩
    clear D0 hst hc0 hev hA hS
    obtain ⟨⟨x0, x1, x2, x3, x4, x5⟩, z0, z1, z2, z3, z4, z5⟩ := rowN6 S1.out.res
    have lx := S1.out.res.lt
    go_wp2_with fail
    obtain ⟨⟨q0, q1, q2, q3, q4, q5⟩, _⟩ := rowN6 D.out.1
    unfold set6 at q0 q1 q2 q3 q4 q5
    refine bodyPost_ret (v := .tuple #[moV none 0 0 none 0 0 0 0 0 0, .iface 107 (.agg #[.string ⟨#[116, 104, 101, 32, 115, 116, 97, 114, 116]⟩, .iface 107 y])]) ?_ rfl ⟨SoEnd.no c a _ HN.out HAF.out HSF.out rfl, ?_⟩
    · simp only [results, Tryz.results36]
      simp [go_sem, q0, q1, q2, q3, q4, q5]
    · have := D.out.2
      unfold set6 at this
      exact this
  have HST := Lib.hid hst
  have HRO := Lib.hid (hst.rightOk rfl)
  have HTN := Lib.hid htn
  obtain ⟨r, hr⟩ : ∃ r : Nat, R = r := ⟨R.toNat, by have := HR.out; omega⟩
  have HRT : Hid (r = R.toNat ∧ r ≤ 100) := by show _ ∧ _; have := HR.out; omega
  obtain ⟨W2, hW2⟩ : ∃ W2, W2 = w1.alloc (.cells #[.slice la m.ln lk, .slice (some ⟨gk, 0, none⟩) m.pn m.pn, .slice (some ⟨gf, 0, none⟩) m.pn m.pn] 70) := ⟨_, rfl⟩
  have hb2 : Below w1.heap.size w1 W2 := by rw [hW2]; exact nbel_alloc _ _
  have S2 : Hid (SvQ m pa pk la lk wa wk w1.heap.size gk gf tv (Mn.flows m) w W2) := ⟨nrow_below S1.out.row hb2, nrow_below S1.out.res hb2, by rw [hW2]; exact rowN_alloc w1 _ _, hkd.below hb2, hfl.below hb2, htr.below hb2, S1.out.at_.below hb2, S1.out.old.trans (hb2.mono S1.out.old.size)⟩
  have HGF : Hid (w.heap.size + 2 ≤ gf ∧ gf < w1.heap.size ∧ W0.heap.size ≤ gf) := by have := HSZ.out; have := hfl.lt; exact ⟨by omega, by omega, hgf⟩
  have HKN : Hid (gk ≠ gf) := kdNe hkd hfl
  have BW2 : Hid (Below W0.heap.size W0 W2) := B1.out.trans (hb2.mono B1.out.size)
  obtain ⟨ta, tc, etv, _⟩ := htr
  have HW2 := Lib.hid hW2
  have lx1 : w.heap.size + 1 < w1.heap.size := S1.out.res.lt
  have lx0 : w.heap.size < w1.heap.size := S1.out.row.lt
  obtain ⟨⟨m0, m1, m2, m3, m4⟩, _⟩ := rowN5 S1.out.row
  clear hst htn hkd hfl hgk hgf hb2 hW2 B1
  subst etv
  go_wp2_with fail
  rw [← HW2.out]
  clear HW2 m0 m1 m2 m3 m4 lx1 lx0
  have HX : Hid (w1.heap.size ≠ gf ∧ w1.heap.size ≠ w.heap.size + 1) := by
    have h1 := HGF.out
    have h2 := S1.out.res.lt
    exact ⟨by omega, by omega⟩
  clear S1
  generalize w1.heap.size = X at *
  refine (settle_any m la lk gk gf m.pn (Mn.flows m) r W0 W2 BW2.out S0.out.at_.l HGF.out.2.2 S2.out.k HKN.out S2.out.fl HRO.out.1 HRO.out.2 HRT.out.2).mono ?_
  rintro e w3 ⟨rfl, hfl, hfr⟩
  have HFE : Hid (svF m R = (Mn.setl m r (Mn.flows m) 0).1 ∧ svD m R = (Mn.setl m r (Mn.flows m) 0).2) := by show _ ∧ _; unfold svF svD; rw [← HRT.out.1]; exact ⟨rfl, rfl⟩
  have HOF : Hid (Mn.AllOk m (Mn.setl m r (Mn.flows m) 0).1) := Mn.setl_ok HRO.out.1 _ _ _ HRO.out.2
  have S3 := Lib.hid (S2.out.fr hfl hfr HGF.out.1 HX.out.1 HKN.out HTN.out HA.out)
  clear hfl hfr S2 BW2
  generalize (Mn.setl m r (Mn.flows m) 0).1 = F at *
  generalize ((Mn.setl m r (Mn.flows m) 0).2) = dn at *
  obtain ⟨⟨x0, x1, x2⟩, _⟩ := rowN3 S3.out.r6
  obtain ⟨⟨r0, r1, r2, r3, r4⟩, _⟩ := rowN5 S3.out.row
  go_wp2_with fail
  clear x0 x1 x2 r0 r1 r2 r3 r4
  refine (headsAlong_any m la m.ln lk gk (some ⟨gf, 0, none⟩) m.pn F _ _ S3.out.k S3.out.fl.at_ S3.out.tr HRO.out.1 HOF.out (HST.out.outOk rfl)).mono ?_
  rintro e w4 ⟨⟨gh, rfl, hhd, hgh⟩, hb⟩
  have S4 := Lib.hid (S3.out.below hb)
  have HH := Lib.hid hhd
  have HGH : Hid (w.heap.size + 2 ≤ gh ∧ gf ≠ gh ∧ gh ≠ w.heap.size + 1) := by
    have h1 := S3.out.res.lt
    have h2 := S3.out.fl.lt
    exact ⟨by omega, by omega, by omega⟩
  clear hb hhd hgh S3
  go_wp2_with fail
  refine wp_region_held_drew (S := fun V => V.rowIs X 70 3 (rowN [.slice la m.ln lk, .slice (some ⟨gk, 0, none⟩) m.pn m.pn, .slice (some ⟨gf, 0, none⟩) m.pn m.pn])) (by kernel_rfl) (nrow_below S4.out.r6 (Below.refl _ _).drew) (fun hHeld => ?_)
  obtain ⟨Z, hZ⟩ : ∃ Z, Z = w4.drew := ⟨_, rfl⟩
  have SZ : Hid (SvQ m pa pk la lk wa wk X gk gf (.slice ta (Mn.fin m).2.length tc) F w Z) := by show SvQ _ _ _ _ _ _ _ _ _ _ _ _ _ _; rw [hZ]; exact S4.out.below (Below.refl _ _).drew
  have HZ : Hid (IsBlk 2 gh (Mn.nn m) (Mn.heads m F) Z) := by show IsBlk _ _ _ _ _; rw [hZ]; exact HH.out.below (Below.refl _ _).drew
  rw [← hZ] at hHeld ⊢
  clear hZ S4 HH
  refine take_do (i := 0) (v := (.pointer (some ⟨X, 2, none⟩))) rfl (by kernel_rfl) (by kernel_rfl) (by kernel_rfl) (fun _ _ _ h => h) (by rfl) ?_ (by assumption) ?_
  · intro w' hSw
    skip
    go_simp
  simp only [Act.put, List.setIfInBounds_toArray, List.set_cons_zero, List.set_cons_succ]
  refine take_do (i := 1) (v := (.slice (some ⟨gf, 0, none⟩) m.pn m.pn)) rfl (by kernel_rfl) (by kernel_rfl) (by kernel_rfl) (fun _ _ _ h => h) (by rfl) ?_ (by assumption) ?_
  · intro w' hSw
    obtain ⟨⟨r0, r1, r2⟩, _⟩ := rowN3 hSw
    go_simp
  simp only [Act.put, List.setIfInBounds_toArray, List.set_cons_zero, List.set_cons_succ]
  refine take_do (i := 2) (v := (.slice (some ⟨gh, 0, none⟩) (Mn.nn m) (Mn.nn m))) rfl (by kernel_rfl) (by kernel_rfl) (by kernel_rfl) (fun _ _ _ h => h) (by rfl) ?_ (by assumption) ?_
  · intro w' hSw
    skip
    go_simp
  simp only [Act.put, List.setIfInBounds_toArray, List.set_cons_zero, List.set_cons_succ]
  refine take_do (i := 3) (v := (rmV la m.ln lk gk m.pn (some ⟨gf, 0, none⟩) m.pn)) rfl (by kernel_rfl) (by kernel_rfl) (by kernel_rfl) (fun _ _ _ h => h) (by rfl) ?_ (by assumption) ?_
  · intro w' hSw
    obtain ⟨⟨r0, r1, r2⟩, _⟩ := rowN3 hSw
    go_simp
  simp only [Act.put, List.setIfInBounds_toArray, List.set_cons_zero, List.set_cons_succ]
  refine take_do (i := 5) (v := (.int .i64 (dn : Int))) rfl (by kernel_rfl) (by kernel_rfl) (by kernel_rfl) (fun _ _ _ h => h) (by rfl) ?_ (by assumption) ?_
  · intro w' hSw
    skip
    go_simp
  simp only [Act.put, List.setIfInBounds_toArray, List.set_cons_zero, List.set_cons_succ]
  refine take_call (i := 4) rfl (by kernel_rfl) (fun K2 hK => ?_)
  go_simp
  refine (irest_any m la lk gk (some ⟨gf, 0, none⟩) m.pn F _ SZ.out.at_.l SZ.out.k SZ.out.fl.at_ HRO.out.1 HOF.out).mono ?_
  rintro e w5 ⟨rfl, hb⟩
  have S5 := Lib.hid (SZ.out.below hb)
  have H5 := Lib.hid (HZ.out.below hb)
  go_wp2_with fail
  refine hK.out _ _ (nrow_below hHeld hb) (fun hHeld2 => ?_)
  clear hK hHeld hb SZ HZ
  have hHeld := hHeld2
  clear hHeld2
  refine take_do (i := 6) (v := (moV (some ⟨gf, 0, none⟩) m.pn m.pn (some ⟨gh, 0, none⟩) (Mn.nn m) (Mn.nn m) (Mn.rest m F) (dn : Int) 0 0)) rfl (by kernel_rfl) (by kernel_rfl) (by kernel_rfl) (fun _ _ _ h => h) (by rfl) ?_ (by assumption) ?_
  · intro w' hSw
    skip
    go_simp
  simp only [Act.put, List.setIfInBounds_toArray, List.set_cons_zero, List.set_cons_succ]
  have D := Lib.hid (set6_done S5.out.res rfl S5.out.old (by omega) (.slice (some ⟨gf, 0, none⟩) m.pn m.pn) (.slice (some ⟨gh, 0, none⟩) (Mn.nn m) (Mn.nn m)) (.int .i64 (Mn.rest m F)) (.int .i64 (dn : Int)) (.int .i64 0) (.int .i64 0))
  obtain ⟨⟨x0, x1, x2, x3, x4, x5⟩, z0, z1, z2, z3, z4, z5⟩ := rowN6 S5.out.res
  have lx := S5.out.res.lt
  obtain ⟨WZ, hWZ⟩ : ∃ WZ, WZ = set6 w5 (w.heap.size + 1) (.slice (some ⟨gf, 0, none⟩) m.pn m.pn) (.slice (some ⟨gh, 0, none⟩) (Mn.nn m) (Mn.nn m)) (.int .i64 (Mn.rest m F)) (.int .i64 (dn : Int)) (.int .i64 0) (.int .i64 0) := ⟨_, rfl⟩
  have HRX : Hid (WZ.rowIs X 70 3 (rowN [.slice la m.ln lk, .slice (some ⟨gk, 0, none⟩) m.pn m.pn, .slice (some ⟨gf, 0, none⟩) m.pn m.pn])) := by
    show World.rowIs _ _ _ _ _
    rw [hWZ]
    exact S5.out.r6.of_block (D.out.2.2 _ HX.out.2)
  have HWZ := Lib.hid hWZ
  unfold set6 at hWZ
  refine take_call (i := 7) rfl (by kernel_rfl) (fun K2 hK => ?_)
  go_simp
  rw [← hWZ]
  refine hK.out _ _ HRX.out (fun hHeld2 => ?_)
  clear hK hHeld x0 x1 x2 x3 x4 x5 z0 z1 z2 z3 z4 z5 lx hWZ
  have hHeld := hHeld2
  clear hHeld2
  refine take_do (i := 8) (v := (.nilIface)) rfl (by kernel_rfl) (by kernel_rfl) (by kernel_rfl) (fun _ _ _ h => h) (by rfl) ?_ (by assumption) ?_
  · intro w' hSw
    skip
    go_simp
  simp only [Act.put, List.setIfInBounds_toArray, List.set_cons_zero, List.set_cons_succ]
  refine wpAnyH_done (by kernel_rfl) ?_ _
  clear hHeld
  obtain ⟨⟨q0, q1, q2, q3, q4, q5⟩, _⟩ := rowN6 D.out.1
  rw [← HWZ.out] at q0 q1 q2 q3 q4 q5
  go_wp2_with fail
  refine bodyPost_ret (v := .tuple #[(moV (some ⟨gf, 0, none⟩) m.pn m.pn (some ⟨gh, 0, none⟩) (Mn.nn m) (Mn.nn m) (Mn.rest m F) (dn : Int) 0 0), .nilIface]) ?_ rfl ⟨SoEnd.ok gf gh HR.out HST.out ?_ ?_ ?_ (by have := HGF.out; omega) (by have := HGH.out; omega) HGH.out.2.1, ?_⟩
  · simp only [results, Tryz.results36]
    simp [go_sem, q0, q1, q2, q3, q4, q5]
  · rw [HFE.out.1, HFE.out.2]
  · rw [HFE.out.1, HWZ.out]
    exact S5.out.fl.block (D.out.2.2 _ (by have := HGF.out; omega))
  · rw [HFE.out.1, HWZ.out]
    exact H5.out.block (D.out.2.2 _ HGH.out.2.2)
  · rw [HWZ.out]; exact D.out.2.1
end Go.Proofs.YtfgmalnkpgloiaaGreatDoor
namespace Go.Proofs.YtfgmalnkpgloiaaGreatDoor
open Go.RowKit Go.Deep
/-- What is told of mains that are to be solved. -/
inductive SvEnd (m : Mn.Mains) (R : Int) (B : Nat) (e : Ending) (W : World) : Prop
  | no (c a : Int) : NoSv m R c a → e = .returned (moV none 0 0 none 0 0 0 0 a c) → SvEnd m R B e W
  | ok (x : Option Addr) (cx : Nat) (p : Option Addr) (cp : Nat) : (0 ≤ R ∧ R ≤ 100) → Mn.Start m 0 0 → e = .returned (moV x m.pn cx p (Mn.nn m) cp (Mn.rest m (svF m R)) (svD m R : Nat) 0 0) → Ow2 B m.pn cx (Mn.nn m) cp x p (svF m R) (Mn.heads m (svF m R)) W → SvEnd m R B e W
set_option maxRecDepth 100000 in
set_option maxHeartbeats 2000000 in
theorem implSolve_any (m : Mn.Mains) (pa : Option Addr) (pk : Nat) (la : Option Addr) (lk : Nat) (wa : Option Addr) (wk : Nat) (R : Int) (w : World) (h : MnAt m pa la wa w) (hg : Et w) :
    Calls Tryz.prog 9 #[mnV m pa pk la lk wa wk, .int .i64 R] w fun e w' => SvEnd m R w.heap.size e w' ∧ Below w.heap.size w w' := by
  obtain ⟨W, hW⟩ : ∃ W, W = (w.alloc (.cells #[.int .i64 m.nodes, .int .i64 m.head, .slice pa m.pn pk, .slice la m.ln lk, .slice wa m.wn wk] 27)).alloc (.cells (moA none 0 0 none 0 0 0 0 0 0) 31) := ⟨_, rfl⟩
  have S0 : Hid (MsS m pa pk la lk wa wk w W) := by
    show MsS _ _ _ _ _ _ _ _ _
    rw [hW]
    exact ⟨nrow_below (rowN_alloc w _ _) (nbel_alloc _ _), rowN_alloc' (by simp) _ _, (h.below (nbel_alloc _ _)).below (nbel_alloc _ _), mbel2 _ _ _⟩
  have HSZ : Hid (W.heap.size = w.heap.size + 2) := by show _ = _; rw [hW]; simp
  have HW := Lib.hid hW
  have HG := Lib.hid hg
  clear h hW hg
  go_enter Tryz.func9, Tryz.ntmps9
  go_wp2_with fail
  rw [← HW.out]
  refine (solveMains_any m pa pk la lk wa wk R _ S0.out.at_).mono ?_
  rintro e w1 ⟨hE, hb⟩
  have S1 := Lib.hid (S0.out.below hb)
  clear hb S0
  rcases hE with ⟨c, a, y, hn, hA, hS, rfl⟩ | ⟨gf, gh, hR, hst, rfl, hfl, hhd, hgf, hgh, hne⟩
  · have HN := Lib.hid hn
    have HAF := Lib.hid hA
    have HSF := Lib.hid hS
    clear hn hA hS
    go_wp2_with fail
    refine (tell_bad _ _ _ _ _ _ _ _ _ _ _ a c HAF.out HSF.out _ (HG.out.below S1.out.old)).mono ?_
    rintro e w2 ⟨rfl, hb⟩
    have S3 := Lib.hid (S1.out.below hb)
    clear hb S1
    have D := Lib.hid (set6_done S3.out.res rfl S3.out.old (by omega) (.slice none 0 0) (.slice none 0 0) (.int .i64 0) (.int .i64 0) (.int .i64 a) (.int .i64 c))
    obtain ⟨⟨x0, x1, x2, x3, x4, x5⟩, z0, z1, z2, z3, z4, z5⟩ := rowN6 S3.out.res
    have lx := S3.out.res.lt
    go_wp2_with fail
    obtain ⟨⟨q0, q1, q2, q3, q4, q5⟩, _⟩ := rowN6 D.out.1
    unfold set6 at q0 q1 q2 q3 q4 q5
    refine bodyPost_ret (v := moV none 0 0 none 0 0 0 0 a c) ?_ rfl ⟨SvEnd.no c a HN.out rfl, D.out.2.1⟩
    simp only [results, Tryz.results9]
    simp [go_sem, q0, q1, q2, q3, q4, q5]
  · have HR := Lib.hid hR
    have HST := Lib.hid hst
    have HFL := Lib.hid hfl
    have HHD := Lib.hid hhd
    have HGG : Hid (w.heap.size + 2 ≤ gf ∧ w.heap.size + 2 ≤ gh ∧ gf ≠ gh) := by have := HSZ.out; exact ⟨by omega, by omega, hne⟩
    clear hR hst hfl hhd hgf hgh hne
    go_wp2_with fail
    refine (tell_ok _ _ _ _ _ _ _ _ _ _ _).mono ?_
    rintro e w2 ⟨rfl, hb⟩
    have S3 := Lib.hid (S1.out.below hb)
    have F3 := Lib.hid (HFL.out.below hb)
    have G3 := Lib.hid (HHD.out.below hb)
    clear hb S1 HFL HHD
    have D := Lib.hid (set6_done S3.out.res rfl S3.out.old (by omega) (.slice (some ⟨gf, 0, none⟩) m.pn m.pn) (.slice (some ⟨gh, 0, none⟩) (Mn.nn m) (Mn.nn m)) (.int .i64 (Mn.rest m (svF m R))) (.int .i64 (svD m R : Nat)) (.int .i64 0) (.int .i64 0))
    obtain ⟨⟨x0, x1, x2, x3, x4, x5⟩, z0, z1, z2, z3, z4, z5⟩ := rowN6 S3.out.res
    have lx := S3.out.res.lt
    go_wp2_with fail
    obtain ⟨⟨q0, q1, q2, q3, q4, q5⟩, _⟩ := rowN6 D.out.1
    unfold set6 at q0 q1 q2 q3 q4 q5
    have gg := HGG.out
    have HO : Hid (Ow2 w.heap.size m.pn m.pn (Mn.nn m) (Mn.nn m) (some ⟨gf, 0, none⟩) (some ⟨gh, 0, none⟩) (svF m R) (Mn.heads m (svF m R)) (set6 w2 (w.heap.size + 1) (.slice (some ⟨gf, 0, none⟩) m.pn m.pn) (.slice (some ⟨gh, 0, none⟩) (Mn.nn m) (Mn.nn m)) (.int .i64 (Mn.rest m (svF m R))) (.int .i64 (svD m R : Nat)) (.int .i64 0) (.int .i64 0))) := ⟨Or.inr ⟨gf, rfl, by omega, F3.out.block (D.out.2.2 _ (by omega))⟩, Or.inr ⟨gh, rfl, by omega, G3.out.block (D.out.2.2 _ (by omega))⟩, fun k e e' => gg.2.2 (by cases e; cases e'; rfl)⟩
    refine bodyPost_ret (v := moV (some ⟨gf, 0, none⟩) m.pn m.pn (some ⟨gh, 0, none⟩) (Mn.nn m) (Mn.nn m) (Mn.rest m (svF m R)) (svD m R : Nat) 0 0) ?_ rfl ⟨SvEnd.ok _ _ _ _ HR.out HST.out rfl HO.out, D.out.2.1⟩
    simp only [results, Tryz.results9]
    simp [go_sem, q0, q1, q2, q3, q4, q5]
end Go.Proofs.YtfgmalnkpgloiaaGreatDoor
namespace Go.Proofs.YtfgmalnkpgloiaaGreatDoor
open Go.RowKit Go.Deep
/-- What stands in the model's walk. -/
structure SwQ (m : Mn.Mains) (pa : Option Addr) (pk : Nat) (la : Option Addr) (lk : Nat) (wa : Option Addr) (wk : Nat) (Y : Nat) (x : Option Addr) (cx : Nat) (hv : Value) (rs : Int) (d : Nat) (F : Nat → Int) (w W : World) : Prop where
  row : W.rowIs w.heap.size 27 5 (rowN (mnL m pa pk la lk wa wk))
  res : W.rowIs (w.heap.size + 1) 31 6 (rowN (moL none 0 0 none 0 0 0 0 0 0))
  ro : W.rowIs Y 31 6 (rowN [.slice x m.pn cx, hv, .int .i64 rs, .int .i64 (d : Int), .int .i64 0, .int .i64 0])
  fl : OwL 2 (w.heap.size + 2) m.pn x cx F W
  ne : ∀ k, x = some ⟨k, 0, none⟩ → k ≠ Y
  at_ : MnAt m pa la wa W
  old : Below w.heap.size w W
  own : MnAt m pa la wa w
theorem SwQ.below {m : Mn.Mains} {pa : Option Addr} {pk : Nat} {la : Option Addr} {lk : Nat} {wa : Option Addr} {wk : Nat} {Y : Nat} {x : Option Addr} {cx : Nat} {hv : Value} {rs : Int} {d : Nat} {F : Nat → Int} {w W W' : World} (h : SwQ m pa pk la lk wa wk Y x cx hv rs d F w W) (hb : Below W.heap.size W W') : SwQ m pa pk la lk wa wk Y x cx hv rs d F w W' := ⟨nrow_below h.row hb, nrow_below h.res hb, nrow_below h.ro hb, h.fl.below hb, h.ne, h.at_.below hb, h.old.trans (hb.mono h.old.size), h.own⟩
theorem SwQ.rest {m : Mn.Mains} {pa : Option Addr} {pk : Nat} {la : Option Addr} {lk : Nat} {wa : Option Addr} {wk : Nat} {Y : Nat} {x : Option Addr} {cx : Nat} {hv : Value} {rs : Int} {d : Nat} {F : Nat → Int} {w W : World} (h : SwQ m pa pk la lk wa wk Y x cx hv rs d F w W) (z : Int) (hY : w.heap.size + 2 ≤ Y) : SwQ m pa pk la lk wa wk Y x cx hv z d F w (W.setCell ⟨Y, 2, none⟩ (.int .i64 z)) := by
  have hold : Below w.heap.size w (W.setCell ⟨Y, 2, none⟩ (.int .i64 z)) := h.old.setCell (p := ⟨Y, 2, none⟩) (show w.heap.size ≤ Y by omega) _
  have b : ∀ k, k ≠ Y → (W.setCell ⟨Y, 2, none⟩ (.int .i64 z)).heap[k]? = W.heap[k]? := fun k hk => Below.heap_setCell _ _ _ k hk
  exact ⟨h.row.of_block (b _ (by omega)), h.res.of_block (b _ (by omega)), rowN_put h.ro 2 _ (by simp), h.fl.keep (fun k e _ => b k (h.ne k e)), h.ne, h.own.below hold, hold, h.own⟩
theorem SwQ.heads {m : Mn.Mains} {pa : Option Addr} {pk : Nat} {la : Option Addr} {lk : Nat} {wa : Option Addr} {wk : Nat} {Y : Nat} {x : Option Addr} {cx : Nat} {hv : Value} {rs : Int} {d : Nat} {F : Nat → Int} {w W : World} (h : SwQ m pa pk la lk wa wk Y x cx hv rs d F w W) (z : Value) (hY : w.heap.size + 2 ≤ Y) : SwQ m pa pk la lk wa wk Y x cx z rs d F w (W.setCell ⟨Y, 1, none⟩ z) := by
  have hold : Below w.heap.size w (W.setCell ⟨Y, 1, none⟩ z) := h.old.setCell (p := ⟨Y, 1, none⟩) (show w.heap.size ≤ Y by omega) _
  have b : ∀ k, k ≠ Y → (W.setCell ⟨Y, 1, none⟩ z).heap[k]? = W.heap[k]? := fun k hk => Below.heap_setCell _ _ _ k hk
  exact ⟨h.row.of_block (b _ (by omega)), h.res.of_block (b _ (by omega)), rowN_put h.ro 1 _ (by simp), h.fl.keep (fun k e _ => b k (h.ne k e)), h.ne, h.own.below hold, hold, h.own⟩
theorem SwQ.next {m : Mn.Mains} {pa : Option Addr} {pk : Nat} {la : Option Addr} {lk : Nat} {wa : Option Addr} {wk : Nat} {Y : Nat} {x : Option Addr} {cx : Nat} {hv : Value} {rs : Int} {d : Nat} {F : Nat → Int} {w W : World} (h : SwQ m pa pk la lk wa wk Y x cx hv rs d F w W) (hY : w.heap.size + 2 ≤ Y) (x' : Option Addr) (c' : Nat) (F' : Nat → Int) (ho : OwL 2 (w.heap.size + 2) m.pn x' c' F' W) (hn : ∀ k, x' = some ⟨k, 0, none⟩ → k ≠ Y) : SwQ m pa pk la lk wa wk Y x' c' hv rs (d + 1) F' w ((W.setCell ⟨Y, 0, none⟩ (.slice x' m.pn c')).setCell ⟨Y, 3, none⟩ (.int .i64 ((d + 1 : Nat) : Int))) := by
  have hold : Below w.heap.size w ((W.setCell ⟨Y, 0, none⟩ (.slice x' m.pn c')).setCell ⟨Y, 3, none⟩ (.int .i64 ((d + 1 : Nat) : Int))) := (h.old.setCell (p := ⟨Y, 0, none⟩) (show w.heap.size ≤ Y by omega) _).setCell (p := ⟨Y, 3, none⟩) (show w.heap.size ≤ Y by omega) _
  have b : ∀ k, k ≠ Y → ((W.setCell ⟨Y, 0, none⟩ (.slice x' m.pn c')).setCell ⟨Y, 3, none⟩ (.int .i64 ((d + 1 : Nat) : Int))).heap[k]? = W.heap[k]? := fun k hk => (Below.heap_setCell _ _ _ k hk).trans (Below.heap_setCell _ _ _ k hk)
  exact ⟨h.row.of_block (b _ (by omega)), h.res.of_block (b _ (by omega)), rowN_put (rowN_put h.ro 0 _ (by simp)) 3 _ (by simp), ho.keep (fun k e _ => b k (hn k e)), hn, h.own.below hold, hold, h.own⟩
/-- How many rounds are left. -/
def leftR (R : Int) (Y : Nat) (W : World) : Nat := match W.cell? ⟨Y, 3, none⟩ with | some (.int _ d) => (R - d).toNat | _ => 0
theorem leftR_of {R d : Int} {Y : Nat} {k : IntKind} {W : World} (h : W.cell? ⟨Y, 3, none⟩ = some (.int k d)) : leftR R Y W = (R - d).toNat := by unfold leftR; rw [h]
theorem SwQ.left {m : Mn.Mains} {pa : Option Addr} {pk : Nat} {la : Option Addr} {lk : Nat} {wa : Option Addr} {wk : Nat} {Y : Nat} {x : Option Addr} {cx : Nat} {hv : Value} {rs : Int} {d : Nat} {F : Nat → Int} {w W : World} (h : SwQ m pa pk la lk wa wk Y x cx hv rs d F w W) (R : Int) : leftR R Y W = (R - d).toNat := leftR_of (h.ro.cell (i := 3) (by omega))
set_option maxRecDepth 100000 in
set_option maxHeartbeats 4000000 in
theorem specSolve_any (m : Mn.Mains) (pa : Option Addr) (pk : Nat) (la : Option Addr) (lk : Nat) (wa : Option Addr) (wk : Nat) (R : Int) (w : World) (h : MnAt m pa la wa w) (hs : MnSmall m) :
    Calls Tryz.prog 8 #[mnV m pa pk la lk wa wk, .int .i64 R] w fun e w' => SvEnd m R w.heap.size e w' ∧ Below w.heap.size w w' := by
  obtain ⟨W0, hW0⟩ : ∃ W0, W0 = (w.alloc (.cells #[.int .i64 m.nodes, .int .i64 m.head, .slice pa m.pn pk, .slice la m.ln lk, .slice wa m.wn wk] 27)).alloc (.cells #[.slice none 0 0, .slice none 0 0, .int .i64 0, .int .i64 0, .int .i64 0, .int .i64 0] 31) := ⟨_, rfl⟩
  have S0 : Hid (MsS m pa pk la lk wa wk w W0) := by
    show MsS _ _ _ _ _ _ _ _ _
    rw [hW0]
    exact ⟨nrow_below (rowN_alloc w _ _) (nbel_alloc _ _), rowN_alloc' (by simp) _ _, (h.below (nbel_alloc _ _)).below (nbel_alloc _ _), mbel2 _ _ _⟩
  have HSZ : Hid (W0.heap.size = w.heap.size + 2) := by show _ = _; rw [hW0]; simp
  have HW0 := Lib.hid hW0
  have HA := Lib.hid h
  have HSM := Lib.hid hs
  clear h hW0 hs
  by_cases hR : 0 ≤ R ∧ R ≤ 100
  case neg =>
    have HN : Hid (NoSv m R 1 0) := Or.inl ⟨hR, rfl, rfl⟩
    have D : Hid (Below w.heap.size w (((w.alloc (.cells #[.int .i64 m.nodes, .int .i64 m.head, .slice pa m.pn pk, .slice la m.ln lk, .slice wa m.wn wk] 27)).alloc (.cells #[.slice none 0 0, .slice none 0 0, .int .i64 0, .int .i64 0, .int .i64 0, .int .i64 1] 31)))) := mbel2 _ _ _
    by_cases h0 : R < 0
    · clear hR
      go_enter Tryz.func8, Tryz.ntmps8
      go_wp2_with fail
      refine bodyPost_ret (v := moV none 0 0 none 0 0 0 0 0 1) ?_ rfl ⟨SvEnd.no 1 0 HN.out rfl, D.out⟩
      simp only [results, Tryz.results8]
      simp [go_sem]
    · have h1 : (100 : Int) < R := by omega
      clear hR
      go_enter Tryz.func8, Tryz.ntmps8
      go_wp2_with fail
      refine bodyPost_ret (v := moV none 0 0 none 0 0 0 0 0 1) ?_ rfl ⟨SvEnd.no 1 0 HN.out rfl, D.out⟩
      simp only [results, Tryz.results8]
      simp [go_sem]
  case pos =>
  have HR := Lib.hid hR
  have hR0 : ¬ R < 0 := by omega
  have hR1 : ¬ (100 : Int) < R := by omega
  clear hR
  go_enter Tryz.func8, Tryz.ntmps8
  go_wp2_with fail
  rw [← HW0.out]
  refine (specStart_any m pa pk la lk wa wk _ S0.out.at_ HSM.out).mono ?_
  rintro e w1 ⟨hE, hb⟩
  have S1 := Lib.hid (S0.out.below hb)
  clear hb
  rcases hE with ⟨c, a, hst, hc0, rfl⟩ | ⟨gf, hst, rfl, hfl, hgf⟩
  · have HN : Hid (NoSv m R c a) := Or.inr ⟨HR.out, hst, hc0⟩
    have D0 := set6_done S1.out.res rfl S1.out.old (by omega) (.slice none 0 0) (.slice none 0 0) (.int .i64 0) (.int .i64 0) (.int .i64 a) (.int .i64 c)
    have D : Hid (World.rowIs ((set6 w1 (w.heap.size + 1) (.slice none 0 0) (.slice none 0 0) (.int .i64 0) (.int .i64 0) (.int .i64 a) (.int .i64 c)).alloc (.cells (moA none 0 0 none 0 0 0 0 a c) 31)) (w.heap.size + 1) 31 6 (rowN (moL none 0 0 none 0 0 0 0 a c)) ∧ Below w.heap.size w ((set6 w1 (w.heap.size + 1) (.slice none 0 0) (.slice none 0 0) (.int .i64 0) (.int .i64 0) (.int .i64 a) (.int .i64 c)).alloc (.cells (moA none 0 0 none 0 0 0 0 a c) 31))) := ⟨nrow_below D0.1 (nbel_alloc _ _), D0.2.1.trans ((nbel_alloc _ _).mono D0.2.1.size)⟩
    have hc1 : (c != 0) = true := by simp [hc0]
    clear D0 hst
    obtain ⟨⟨x0, x1, x2, x3, x4, x5⟩, z0, z1, z2, z3, z4, z5⟩ := rowN6 S1.out.res
    have lx := S1.out.res.lt
    go_wp2_with fail
    obtain ⟨⟨q0, q1, q2, q3, q4, q5⟩, _⟩ := rowN6 D.out.1
    unfold set6 at q0 q1 q2 q3 q4 q5
    refine bodyPost_ret (v := moV none 0 0 none 0 0 0 0 a c) ?_ rfl ⟨SvEnd.no c a HN.out rfl, ?_⟩
    · simp only [results, Tryz.results8]
      simp [go_sem, q0, q1, q2, q3, q4, q5]
    · have := D.out.2
      unfold set6 at this
      exact this
  have HST := Lib.hid hst
  have HRO := Lib.hid (hst.rightOk rfl)
  have HPN : Hid (m.pn ≤ 400 ∧ m.pn ≤ 1048576) := by have := HRO.out.1.pn; show _ ∧ _; omega
  obtain ⟨r, hr⟩ : ∃ r : Nat, R = r := ⟨R.toNat, by have := HR.out; omega⟩
  have HRT : Hid (r = R.toNat) := by show _ = _; omega
  have HFL := Lib.hid hfl
  obtain ⟨W3, hW3⟩ : ∃ W3, W3 = (w1.alloc (.cells (moA (some ⟨gf, 0, none⟩) m.pn m.pn none 0 0 0 0 0 0) 31)).alloc (.cells (moA (some ⟨gf, 0, none⟩) m.pn m.pn none 0 0 0 0 0 0) 31) := ⟨_, rfl⟩
  have hb3 : Below w1.heap.size w1 W3 := by rw [hW3]; exact (nbel_alloc _ _).trans ((nbel_alloc _ _).mono (by simp))
  have HGF : Hid (w.heap.size + 2 ≤ gf ∧ gf < w1.heap.size) := by have := HSZ.out; have := hfl.lt; exact ⟨by omega, by omega⟩
  have ST : Hid (SwQ m pa pk la lk wa wk (w1.heap.size + 1) (some ⟨gf, 0, none⟩) m.pn (.slice none 0 0) 0 0 (Mn.flows m) w W3) := ⟨nrow_below S1.out.row hb3, nrow_below S1.out.res hb3, by rw [hW3]; exact rowN_alloc' (by simp) _ _, Or.inr ⟨gf, rfl, HGF.out.1, hfl.below hb3⟩, fun k e => (by cases e; have := HGF.out; omega), S1.out.at_.below hb3, S1.out.old.trans (hb3.mono S1.out.old.size), HA.out⟩
  have HYY : Hid (w.heap.size + 2 ≤ w1.heap.size + 1) := by have := S1.out.res.lt; show _ ≤ _; omega
  have HW3 := Lib.hid hW3
  clear hst hfl hgf hb3 hW3 S1
  go_wp2_with fail
  rw [← HW3.out]
  clear HW3
  generalize w1.heap.size + 1 = Y at *
  go_loopw [] (fun wr => ∃ (d g cx : Nat) (F : Nat → Int), d ≤ r ∧ Hid (Mn.setl m r (Mn.flows m) 0 = Mn.setl m (r - d) F d ∧ Mn.AllOk m F ∧ SwQ m pa pk la lk wa wk Y (some ⟨g, 0, none⟩) cx (.slice none 0 0) 0 d F w wr)) (fun wr => leftR r Y wr)
  case atStart => exact ⟨0, gf, m.pn, Mn.flows m, Nat.zero_le _, rfl, HRO.out.2, ST.out⟩
  case round =>
    obtain ⟨d, g, cx, F, hd, HS⟩ := hrel
    clear ST
    by_cases hlt : d < r
    · have hltz : (d : Int) < (r : Int) := by omega
      have hd0 : (0 : Int) ≤ (d : Int) := by omega
      have S0' := Lib.hid HS.out.2.2
      obtain ⟨⟨m0, m1, m2, m3, m4⟩, _⟩ := rowN5 S0'.out.row
      obtain ⟨⟨o0, o1, o2, o3, o4, o5⟩, _⟩ := rowN6 S0'.out.ro
      go_wp2_with fail
      clear m0 m1 m2 m3 m4 o0 o1 o2 o3 o4 o5
      have HFC : Hid (∀ i, i < m.pn → wr.cell? ⟨g, i, none⟩ = some (.int .i64 (F i))) := by
        rcases S0'.out.fl with ⟨h0, _⟩ | ⟨g', e', _, hf⟩
        · cases h0
        · cases e'
          exact fun i hi => hf.cell hi
      refine (sround_any m pa pk la lk wa wk g m.pn cx F _ S0'.out.at_ HFC.out HSM.out HPN.out.2).mono ?_
      rintro e w5 ⟨hE, hb⟩
      rcases hE with ⟨h1, _⟩ | ⟨_, h1, _⟩ | ⟨a, c, _, _, _, _, rfl, how⟩
      · have := HPN.out.1; omega
      · exact absurd ⟨HRO.out.1, rfl, HS.out.2.1⟩ h1
      have HOK : Hid (Mn.AllOk m (Mn.round m F)) := Mn.roundTo_ok HRO.out.1 HS.out.2.1 _ (Nat.le_refl _)
      obtain ⟨W6, hW6⟩ : ∃ W6, W6 = w5.alloc (.cells (moA a m.pn c none 0 0 (Mn.rest m (Mn.round m F)) 0 0 0) 31) := ⟨_, rfl⟩
      have hb6 : Below wr.heap.size wr W6 := by rw [hW6]; exact hb.trans ((nbel_alloc _ _).mono hb.size)
      have S6 := Lib.hid (S0'.out.below hb6)
      have RV : Hid (W6.rowIs w5.heap.size 31 6 (rowN (moL a m.pn c none 0 0 (Mn.rest m (Mn.round m F)) 0 0 0))) := by show World.rowIs _ _ _ _ _; rw [hW6]; exact rowN_alloc w5 _ _
      have O6 : Hid (OwL 2 (w.heap.size + 2) m.pn a c (Mn.round m F) W6) := by
        show OwL _ _ _ _ _ _ _
        rw [hW6]
        exact (how.low (by have := S0'.out.res.lt; omega)).below (nbel_alloc _ _)
      have HAN : Hid (∀ k, a = some ⟨k, 0, none⟩ → k ≠ Y) := fun k e => by
        have h1 := (how.lt e).1
        have h2 := S0'.out.ro.lt
        omega
      have HV : Hid (w5.heap.size ≠ Y) := by have h1 := hb.size; have h2 := S0'.out.ro.lt; show _ ≠ _; omega
      have HW6 := Lib.hid hW6
      clear hb hb6 how hW6 S0'
      go_wp2_with fail
      rw [← HW6.out]
      clear HW6
      generalize w5.heap.size = V at *
      go_loopw [8, 9] (fun sv iv wx => ∃ i : Nat, i ≤ m.pn ∧ iv = .int .i64 i ∧ sv = .bool (Mn.sameB (Mn.round m F) F i) ∧ Hid (Below W6.heap.size W6 wx)) (fun _ iv _ => m.pn - (intOf iv).toNat)
      case atStart => exact ⟨0, Nat.zero_le _, rfl, rfl, Below.refl _ _⟩
      case round =>
        obtain ⟨i, hi, rfl, rfl, hB⟩ := hrel
        have S7 := Lib.hid (S6.out.below hB.out)
        have R7 := Lib.hid (nrow_below RV.out hB.out)
        have O7 := Lib.hid (O6.out.below hB.out)
        by_cases hlt2 : i < m.pn
        · have hltz2 : (i : Int) < (m.pn : Int) := by omega
          have hi0 : (0 : Int) ≤ (i : Int) := by omega
          obtain ⟨g2, rfl, _, hf2⟩ := O7.out.pos (by omega)
          obtain ⟨g3, e3, _, hf3⟩ := S7.out.fl.pos (by omega)
          cases e3
          have k1 := hf2.cell hlt2
          have k2 := hf3.cell hlt2
          obtain ⟨⟨o0, o1, o2, o3, o4, o5⟩, _⟩ := rowN6 S7.out.ro
          obtain ⟨⟨v0, v1, v2, v3, v4, v5⟩, _⟩ := rowN6 R7.out
          have HSB : Hid (Mn.sameB (Mn.round m F) F (i + 1) = (Mn.sameB (Mn.round m F) F i && decide (Mn.round m F i = F i))) := rfl
          clear hf2 hf3
          cases hsm : Mn.sameB (Mn.round m F) F i
          · go_wp2_with fail
            go_quiet (fail)
            go_wp2_with fail
            go_roundw
            case rel => exact ⟨i + 1, by omega, by go_num, by rw [HSB.out, hsm]; rfl, ndrewN hB.out _⟩
            case measure => simp [intOf]; omega
          · by_cases hq : Mn.round m F i = F i
            · have hq2 : (Mn.round m F i == F i) = true := by simp [hq]
              rw [hq] at k1
              go_wp2_with fail
              go_quiet (fail)
              go_wp2_with fail
              go_roundw
              case rel => exact ⟨i + 1, by omega, by go_num, by rw [HSB.out, hsm, decide_eq_true hq]; rfl, ndrewN hB.out _⟩
              case measure => simp [intOf]; omega
            · have hq2 : (Mn.round m F i == F i) = false := by simp [hq]
              go_wp2_with fail
              go_quiet (fail)
              go_wp2_with fail
              go_roundw
              case rel => exact ⟨i + 1, by omega, by go_num, by rw [HSB.out, hsm, decide_eq_false hq]; simp, ndrewN hB.out _⟩
              case measure => simp [intOf]; omega
        · obtain rfl : i = m.pn := by omega
          have NX := Lib.hid (S7.out.next HYY.out a c (Mn.round m F) O7.out HAN.out)
          obtain ⟨⟨o0, o1, o2, o3, o4, o5⟩, zo0, zo1, zo2, zo3, zo4, zo5⟩ := rowN6 S7.out.ro
          obtain ⟨⟨v0, v1, v2, v3, v4, v5⟩, _⟩ := rowN6 R7.out
          have lY := S7.out.ro.lt
          have nV := HV.out
          have nc : ((d + 1 : Nat) : Int) = (d : Int) + 1 := by omega
          obtain ⟨rr, hrr⟩ : ∃ rr, r - d = rr + 1 := ⟨r - d - 1, by omega⟩
          have HLW := Lib.hid (HS.out.2.2.left (r : Int))
          have nW : w.heap.size ≠ Y := by have := HYY.out; omega
          obtain ⟨W9, hW9⟩ : ∃ W9, W9 = (wr.setCell ⟨Y, 0, none⟩ (.slice a m.pn c)).setCell ⟨Y, 3, none⟩ (.int .i64 ((d : Int) + 1)) := ⟨_, rfl⟩
          rw [nc, ← hW9] at NX
          clear nc
          obtain ⟨⟨m0, m1, m2, m3, m4⟩, _⟩ := rowN5 S7.out.row
          have HW9 := Lib.hid hW9
          clear hW9
          cases hsm : Mn.sameB (Mn.round m F) F m.pn
          · have HE : Hid (Mn.setl m r (Mn.flows m) 0 = Mn.setl m (r - (d + 1)) (Mn.round m F) (d + 1)) := by
              show _ = _
              rw [HS.out.1, hrr]
              have : r - (d + 1) = rr := by omega
              rw [this]
              simp only [Mn.setl, hsm, Bool.false_eq_true, if_false]
            have HP0 : 0 < m.pn := by
              rcases Nat.eq_zero_or_pos m.pn with h0 | h0
              · rw [h0] at hsm; cases hsm
              · exact h0
            obtain ⟨g2, rfl, _, _⟩ := O7.out.pos HP0
            go_wp2_with fail
            rw [← HW9.out]
            go_roundw
            case rel => exact ⟨d + 1, g2, c, Mn.round m F, by omega, HE.out, HOK.out, NX.out⟩
            case measure => rw [NX.out.left (r : Int), HLW.out]; omega
          · have HFE : Hid (svF m R = Mn.round m F ∧ svD m R = d + 1) := by
              show _ ∧ _
              unfold svF svD
              rw [← HRT.out, HS.out.1, hrr]
              constructor <;> simp [Mn.setl, hsm]
            go_wp2_with fail
            rw [← HW9.out]
            have SX := NX
            obtain ⟨d1, hd1⟩ : ∃ d1, d1 = d + 1 := ⟨_, rfl⟩
            rw [← hd1] at SX HFE
            clear hd1
            clear NX m0 m1 m2 m3 m4 o0 o1 o2 o3 o4 o5 zo0 zo1 zo2 zo3 zo4 zo5 v0 v1 v2 v3 v4 v5 lY nV nW HW9 S7 R7 O7 S6 RV O6
            refine (srest_any m pa pk la lk wa wk a c (Mn.round m F) _ SX.out.at_ SX.out.fl.at_ HRO.out.1 HOK.out).mono ?_
            rintro e t1 ⟨rfl, hb⟩
            have ST1 := Lib.hid (SX.out.below hb)
            have HRE := Lib.hid (ST1.out.rest (Mn.rest m (Mn.round m F)) HYY.out)
            obtain ⟨⟨m0, m1, m2, m3, m4⟩, _⟩ := rowN5 ST1.out.row
            obtain ⟨⟨o0, o1, o2, o3, o4, o5⟩, zo0, zo1, zo2, zo3, zo4, zo5⟩ := rowN6 ST1.out.ro
            obtain ⟨T2, hT2⟩ : ∃ T2, T2 = t1.setCell ⟨Y, 2, none⟩ (.int .i64 (Mn.rest m (Mn.round m F))) := ⟨_, rfl⟩
            rw [← hT2] at HRE
            have nY : w.heap.size ≠ Y := by have := HYY.out; omega
            have lY := ST1.out.ro.lt
            have HT2 := Lib.hid hT2
            clear hb SX hT2
            go_wp2_with fail
            rw [← HT2.out]
            clear m0 m1 m2 m3 m4 o0 o1 o2 o3 o4 o5 zo0 zo1 zo2 zo3 zo4 zo5 nY lY HT2 ST1
            refine (sheads_any m pa pk la lk wa wk a c (Mn.round m F) _ HRE.out.at_ HRE.out.fl.at_ HRO.out.1 HOK.out).mono ?_
            rintro e t3 ⟨⟨gh, rfl, hhd, hgh⟩, hb⟩
            have ST3 := Lib.hid (HRE.out.below hb)
            have HGH : Hid (Y < gh ∧ w.heap.size + 2 ≤ gh ∧ ∀ k, a = some ⟨k, 0, none⟩ → k ≠ gh) := by
              have h1 := HRE.out.ro.lt
              have h2 := HYY.out
              refine ⟨by omega, by omega, fun k e => ?_⟩
              have := (HRE.out.fl.lt e).2
              omega
            have HH3 := Lib.hid hhd
            obtain ⟨⟨o0, o1, o2, o3, o4, o5⟩, zo0, zo1, zo2, zo3, zo4, zo5⟩ := rowN6 ST3.out.ro
            obtain ⟨⟨x0, x1, x2, x3, x4, x5⟩, z0, z1, z2, z3, z4, z5⟩ := rowN6 ST3.out.res
            have lx := ST3.out.res.lt
            have lY := ST3.out.ro.lt
            have nR : w.heap.size + 1 ≠ Y := by have := HYY.out; omega
            obtain ⟨T4, hT4⟩ : ∃ T4, T4 = t3.setCell ⟨Y, 1, none⟩ (.slice (some ⟨gh, 0, none⟩) (Mn.nn m) (Mn.nn m)) := ⟨_, rfl⟩
            have q4 : Hid (SwQ m pa pk la lk wa wk Y a c (.slice (some ⟨gh, 0, none⟩) (Mn.nn m) (Mn.nn m)) (Mn.rest m (Mn.round m F)) d1 (Mn.round m F) w T4 ∧ IsBlk 2 gh (Mn.nn m) (Mn.heads m (Mn.round m F)) T4) := by
              show _ ∧ _
              rw [hT4]
              exact ⟨ST3.out.heads _ HYY.out, HH3.out.block (Below.heap_setCell _ _ _ gh (show gh ≠ Y by have := HGH.out; omega))⟩
            have D := Lib.hid (set6_done q4.out.1.res rfl q4.out.1.old (by omega) (.slice a m.pn c) (.slice (some ⟨gh, 0, none⟩) (Mn.nn m) (Mn.nn m)) (.int .i64 (Mn.rest m (Mn.round m F))) (.int .i64 ((d1 : Nat) : Int)) (.int .i64 0) (.int .i64 0))
            have HT4 := Lib.hid hT4
            clear hb hhd hgh hT4
            go_wp2_with fail
            obtain ⟨⟨q0, q1, q2, q3, q4', q5⟩, _⟩ := rowN6 D.out.1
            rw [HT4.out] at q0 q1 q2 q3 q4' q5
            unfold set6 at q0 q1 q2 q3 q4' q5
            refine bodyPost_ret (v := moV a m.pn c (some ⟨gh, 0, none⟩) (Mn.nn m) (Mn.nn m) (Mn.rest m (Mn.round m F)) ((d1 : Nat) : Int) 0 0) ?_ rfl ⟨SvEnd.ok a c _ _ HR.out HST.out (by rw [HFE.out.1, HFE.out.2]) ?_, ?_⟩
            · simp only [results, Tryz.results8]
              simp [go_sem, q0, q1, q2, q3, q4', q5]
            · rw [HFE.out.1]
              have h9 : Ow2 w.heap.size m.pn c (Mn.nn m) (Mn.nn m) a (some ⟨gh, 0, none⟩) (Mn.round m F) (Mn.heads m (Mn.round m F)) (set6 T4 (w.heap.size + 1) (.slice a m.pn c) (.slice (some ⟨gh, 0, none⟩) (Mn.nn m) (Mn.nn m)) (.int .i64 (Mn.rest m (Mn.round m F))) (.int .i64 ((d1 : Nat) : Int)) (.int .i64 0) (.int .i64 0)) := ⟨(q4.out.1.fl.keep (fun k e hk => D.out.2.2 k (by have := (q4.out.1.fl.lt e).1; omega))).low (by omega), Or.inr ⟨gh, rfl, by have := HGH.out; omega, q4.out.2.block (D.out.2.2 _ (by have := HGH.out; omega))⟩, fun k e e' => HGH.out.2.2 k e (by cases e'; rfl)⟩
              rw [HT4.out] at h9
              unfold set6 at h9
              exact h9
            · have h9 := D.out.2.1
              rw [HT4.out] at h9
              unfold set6 at h9
              exact h9
    · obtain rfl : r = d := by omega
      have HFE : Hid (svF m R = F ∧ svD m R = r) := by show _ ∧ _; unfold svF svD; rw [← HRT.out, HS.out.1, Nat.sub_self]; exact ⟨rfl, rfl⟩
      have SX := Lib.hid HS.out.2.2
      have HOK := Lib.hid HS.out.2.1
      have hltz : ¬ (r : Int) < (r : Int) := by omega
      obtain ⟨x, hx⟩ : ∃ x : Option Addr, x = some ⟨g, 0, none⟩ := ⟨_, rfl⟩
      rw [← hx] at SX
      clear hx HS
      obtain ⟨⟨m0, m1, m2, m3, m4⟩, _⟩ := rowN5 SX.out.row
      obtain ⟨⟨o0, o1, o2, o3, o4, o5⟩, zo0, zo1, zo2, zo3, zo4, zo5⟩ := rowN6 SX.out.ro
      go_wp2_with fail
      clear m0 m1 m2 m3 m4 o0 o1 o2 o3 o4 o5 zo0 zo1 zo2 zo3 zo4 zo5
      refine (srest_any m pa pk la lk wa wk x cx F _ SX.out.at_ SX.out.fl.at_ HRO.out.1 HOK.out).mono ?_
      rintro e t1 ⟨rfl, hb⟩
      have ST1 := Lib.hid (SX.out.below hb)
      have HRE := Lib.hid (ST1.out.rest (Mn.rest m F) HYY.out)
      obtain ⟨⟨m0, m1, m2, m3, m4⟩, _⟩ := rowN5 ST1.out.row
      obtain ⟨⟨o0, o1, o2, o3, o4, o5⟩, zo0, zo1, zo2, zo3, zo4, zo5⟩ := rowN6 ST1.out.ro
      obtain ⟨T2, hT2⟩ : ∃ T2, T2 = t1.setCell ⟨Y, 2, none⟩ (.int .i64 (Mn.rest m F)) := ⟨_, rfl⟩
      rw [← hT2] at HRE
      have nY : w.heap.size ≠ Y := by have := HYY.out; omega
      have lY := ST1.out.ro.lt
      have HT2 := Lib.hid hT2
      clear hb SX hT2
      go_wp2_with fail
      rw [← HT2.out]
      clear m0 m1 m2 m3 m4 o0 o1 o2 o3 o4 o5 zo0 zo1 zo2 zo3 zo4 zo5 nY lY HT2 ST1
      refine (sheads_any m pa pk la lk wa wk x cx F _ HRE.out.at_ HRE.out.fl.at_ HRO.out.1 HOK.out).mono ?_
      rintro e t3 ⟨⟨gh, rfl, hhd, hgh⟩, hb⟩
      have ST3 := Lib.hid (HRE.out.below hb)
      have HGH : Hid (Y < gh ∧ w.heap.size + 2 ≤ gh ∧ ∀ k, x = some ⟨k, 0, none⟩ → k ≠ gh) := by
        have h1 := HRE.out.ro.lt
        have h2 := HYY.out
        refine ⟨by omega, by omega, fun k e => ?_⟩
        have := (HRE.out.fl.lt e).2
        omega
      have HH3 := Lib.hid hhd
      obtain ⟨⟨o0, o1, o2, o3, o4, o5⟩, zo0, zo1, zo2, zo3, zo4, zo5⟩ := rowN6 ST3.out.ro
      obtain ⟨⟨x0, x1, x2, x3, x4, x5⟩, z0, z1, z2, z3, z4, z5⟩ := rowN6 ST3.out.res
      have lx := ST3.out.res.lt
      have lY := ST3.out.ro.lt
      have nR : w.heap.size + 1 ≠ Y := by have := HYY.out; omega
      obtain ⟨T4, hT4⟩ : ∃ T4, T4 = t3.setCell ⟨Y, 1, none⟩ (.slice (some ⟨gh, 0, none⟩) (Mn.nn m) (Mn.nn m)) := ⟨_, rfl⟩
      have q4 : Hid (SwQ m pa pk la lk wa wk Y x cx (.slice (some ⟨gh, 0, none⟩) (Mn.nn m) (Mn.nn m)) (Mn.rest m F) r F w T4 ∧ IsBlk 2 gh (Mn.nn m) (Mn.heads m F) T4) := by
        show _ ∧ _
        rw [hT4]
        exact ⟨ST3.out.heads _ HYY.out, HH3.out.block (Below.heap_setCell _ _ _ gh (show gh ≠ Y by have := HGH.out; omega))⟩
      have D := Lib.hid (set6_done q4.out.1.res rfl q4.out.1.old (by omega) (.slice x m.pn cx) (.slice (some ⟨gh, 0, none⟩) (Mn.nn m) (Mn.nn m)) (.int .i64 (Mn.rest m F)) (.int .i64 ((r : Nat) : Int)) (.int .i64 0) (.int .i64 0))
      have HT4 := Lib.hid hT4
      clear hb hhd hgh hT4
      go_wp2_with fail
      obtain ⟨⟨q0, q1, q2, q3, q4', q5⟩, _⟩ := rowN6 D.out.1
      rw [HT4.out] at q0 q1 q2 q3 q4' q5
      unfold set6 at q0 q1 q2 q3 q4' q5
      refine bodyPost_ret (v := moV x m.pn cx (some ⟨gh, 0, none⟩) (Mn.nn m) (Mn.nn m) (Mn.rest m F) ((r : Nat) : Int) 0 0) ?_ rfl ⟨SvEnd.ok x cx _ _ HR.out HST.out (by rw [HFE.out.1, HFE.out.2]) ?_, ?_⟩
      · simp only [results, Tryz.results8]
        simp [go_sem, q0, q1, q2, q3, q4', q5]
      · rw [HFE.out.1]
        have h9 : Ow2 w.heap.size m.pn cx (Mn.nn m) (Mn.nn m) x (some ⟨gh, 0, none⟩) F (Mn.heads m F) (set6 T4 (w.heap.size + 1) (.slice x m.pn cx) (.slice (some ⟨gh, 0, none⟩) (Mn.nn m) (Mn.nn m)) (.int .i64 (Mn.rest m F)) (.int .i64 ((r : Nat) : Int)) (.int .i64 0) (.int .i64 0)) := ⟨(q4.out.1.fl.keep (fun k e hk => D.out.2.2 k (by have := (q4.out.1.fl.lt e).1; omega))).low (by omega), Or.inr ⟨gh, rfl, by have := HGH.out; omega, q4.out.2.block (D.out.2.2 _ (by have := HGH.out; omega))⟩, fun k e e' => HGH.out.2.2 k e (by cases e'; rfl)⟩
        rw [HT4.out] at h9
        unfold set6 at h9
        exact h9
      · have h9 := D.out.2.1
        rw [HT4.out] at h9
        unfold set6 at h9
        exact h9
end Go.Proofs.YtfgmalnkpgloiaaGreatDoor
namespace Go.Proofs.YtfgmalnkpgloiaaGreatDoor
open Go.RowKit Go.Deep
def AnsV (fn : Nat) (m : Mn.Mains) (R : Int) (d : MoD) : Prop := ∀ (pa : Option Addr) (pk : Nat) (la : Option Addr) (lk : Nat) (wa : Option Addr) (wk : Nat) (w : World), MnAt m pa la wa w → Et w → Calls Tryz.prog fn #[mnV m pa pk la lk wa wk, .int .i64 R] w fun e w' => MoAns d w.heap.size e w' ∧ Below w.heap.size w w'
def noV (a c : Int) : MoD := ⟨0, fun _ => 0, 0, fun _ => 0, 0, 0, a, c⟩
theorem noV_ans (a c : Int) (B : Nat) (W : World) : MoAns (noV a c) B (.returned (moV none 0 0 none 0 0 0 0 a c)) W := ⟨none, 0, none, 0, rfl, Or.inl ⟨rfl, rfl, rfl⟩, Or.inl ⟨rfl, rfl, rfl⟩, fun k e => by cases e⟩
theorem noSv_one {m : Mn.Mains} {R c a c' a' : Int} (h : NoSv m R c a) (h' : NoSv m R c' a') : c = c' ∧ a = a' := by
  rcases h with ⟨h1, rfl, rfl⟩ | ⟨h1, h2, h3⟩ <;> rcases h' with ⟨k1, rfl, rfl⟩ | ⟨k1, k2, k3⟩
  · exact ⟨rfl, rfl⟩
  · exact absurd k1 h1
  · exact absurd h1 k1
  · exact h2.one k2
theorem noSv_not {m : Mn.Mains} {R c a : Int} (h : NoSv m R c a) (hR : 0 ≤ R ∧ R ≤ 100) (hs : Mn.Start m 0 0) : False := by
  rcases h with ⟨h1, _⟩ | ⟨_, h2, h3⟩
  · exact h1 hR
  · exact h3 (h2.one hs).1
theorem sv_ans (m : Mn.Mains) (R : Int) : ∃ d : MoD, (d.fn ≤ 1048576 ∧ d.hn ≤ 1048576) ∧ ∀ B e W, SvEnd m R B e W → MoAns d B e W := by
  by_cases hR : 0 ≤ R ∧ R ≤ 100
  · obtain ⟨c, a, hst⟩ := start_total m
    by_cases hc : c = 0
    · subst hc
      have ha : Mn.Start m 0 0 := by
        cases hst with
        | ok h1 h2 h3 => exact .ok h1 h2 h3
      have hr := ha.rightOk rfl
      refine ⟨⟨m.pn, svF m R, Mn.nn m, Mn.heads m (svF m R), Mn.rest m (svF m R), (svD m R : Nat), 0, 0⟩, ⟨?_, ?_⟩, fun B e W h => ?_⟩
      · have := hr.1.pn
        show m.pn ≤ _
        omega
      · have := hr.1.nn
        show Mn.nn m ≤ _
        have := hr.1.n2
        omega
      · rcases h with ⟨c, a, hn, _⟩ | ⟨x, cx, p, cp, _, _, he, ho⟩
        · exact (noSv_not hn hR ha).elim
        · exact ⟨x, cx, p, cp, he, ho⟩
    · have hn : NoSv m R c a := Or.inr ⟨hR, hst, hc⟩
      refine ⟨noV a c, ⟨Nat.zero_le _, Nat.zero_le _⟩, fun B e W h => ?_⟩
      rcases h with ⟨c', a', hn', rfl⟩ | ⟨x, cx, p, cp, _, hs', _, _⟩
      · obtain ⟨rfl, rfl⟩ := noSv_one hn hn'
        exact noV_ans _ _ B W
      · exact (noSv_not hn hR hs').elim
  · have hn : NoSv m R 1 0 := Or.inl ⟨hR, rfl, rfl⟩
    refine ⟨noV 0 1, ⟨Nat.zero_le _, Nat.zero_le _⟩, fun B e W h => ?_⟩
    rcases h with ⟨c', a', hn', rfl⟩ | ⟨x, cx, p, cp, hR', _, _, _⟩
    · obtain ⟨rfl, rfl⟩ := noSv_one hn hn'
      exact noV_ans _ _ B W
    · exact absurd hR' hR
theorem mainsSolve_both (m : Mn.Mains) (hs : MnSmall m) (R : Int) : ∃ d : MoD, d.fn ≤ 1048576 ∧ d.hn ≤ 1048576 ∧ AnsV 8 m R d ∧ AnsV 9 m R d := by
  obtain ⟨d, ⟨h1, h2⟩, h3⟩ := sv_ans m R
  refine ⟨d, h1, h2, ?_, ?_⟩
  · intro pa pk la lk wa wk w ha _
    exact (specSolve_any m pa pk la lk wa wk R w ha hs).mono (fun e w' ⟨q, hb⟩ => ⟨h3 _ _ _ q, hb⟩)
  · intro pa pk la lk wa wk w ha hg
    exact (implSolve_any m pa pk la lk wa wk R w ha hg).mono (fun e w' ⟨q, hb⟩ => ⟨h3 _ _ _ q, hb⟩)
end Go.Proofs.YtfgmalnkpgloiaaGreatDoor
