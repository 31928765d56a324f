/-
  The model's test of ways.
-/
import Derived.Test.YtipmjobhegpdgaaPlW2
import Derived.Test.YtipmjobhegpdgaaPlS1
namespace Go.Proofs.Ytipmjobhegpdgaa
open Go.RowKit Go.Deep

set_option maxRecDepth 100000 in
set_option maxHeartbeats 1000000 in
theorem sother_any (n : Pl.Plan) (r : Nat) (x : Int) (w : World) :
    Calls Try.prog 55 #[.agg #[.int .i64 (n.R (r * 3)), .int .i64 (n.R (r * 3 + 1)), .int .i64 (n.R (r * 3 + 2))], .int .i64 x] w fun e w' => e = .returned (.int .i64 (Pl.oth n r x)) ∧ Below w.heap.size w w' := by
  unfold Pl.oth
  generalize n.R (r * 3) = f
  generalize n.R (r * 3 + 1) = t
  generalize n.R (r * 3 + 2) = v
  by_cases h1 : f = x
  · rw [if_pos h1]
    subst h1
    go_enter Try.func55, Try.ntmps55
    go_wp2_with fail
    go_ret
    exact ⟨rfl, nbel_alloc _ _⟩
  · rw [if_neg h1]
    have h1' : (f == x) = false := by simp [h1]
    clear h1
    by_cases h2 : t = x
    · rw [if_pos h2]
      subst h2
      go_enter Try.func55, Try.ntmps55
      go_wp2_with fail
      go_ret
      exact ⟨rfl, nbel_alloc _ _⟩
    · rw [if_neg h2]
      have h2' : (t == x) = false := by simp [h2]
      clear h2
      go_enter Try.func55, Try.ntmps55
      go_wp2_with fail
      go_ret
      exact ⟨rfl, nbel_alloc _ _⟩
set_option maxRecDepth 100000 in
set_option maxHeartbeats 1000000 in
theorem shas_any (a : Option Addr) (n cap : Nat) (f : Nat → Int) (x : Int) (w : World) (h : IsAt a n f w) (hn : n ≤ 1048576) :
    Calls Try.prog 56 #[.slice a n cap, .int .i64 x] w fun e w' => e = .returned (.bool (dB (Pl.Has n f x))) ∧ w' = w := by
  have H := Lib.hid h
  clear h
  go_enter Try.func56, Try.ntmps56
  go_wp2_with fail
  go_loopw [5] (fun iv wr => ∃ (i : Nat), i ≤ n ∧ iv = .int .i64 i ∧ wr = w ∧ Hid (∀ j, j < i → f j ≠ x)) (fun iv _ => n - (intOf iv).toNat)
  case atStart => exact ⟨0, Nat.zero_le _, rfl, rfl, fun j hj => absurd hj (Nat.not_lt_zero _)⟩
  case round =>
    obtain ⟨i, hi, rfl, rfl, hP⟩ := hrel
    by_cases hlt : i < n
    · have hltz : (i : Int) < (n : Int) := by omega
      obtain ⟨b, e, c0⟩ := H.out.at1 hlt
      subst e
      by_cases c : f i = x
      · have HC : Hid (dB (Pl.Has n f x) = true) := dB_tt ⟨i, hlt, c⟩
        have c' : (f i == x) = true := by simp [c]
        clear c
        go_wp2_with fail
        go_ret
        exact ⟨by rw [HC.out]; rfl, rfl⟩
      · have HC := Lib.hid c
        have c' : (f i == x) = false := by simp [c]
        clear c
        go_wp2_with fail
        go_roundw
        case rel => exact ⟨i + 1, by omega, by go_num, by trivial, fun j hj => by
          by_cases e : j = i
          · subst e; exact HC.out
          · exact hP.out j (by omega)⟩
        case measure => simp [intOf]; omega
    · obtain rfl : i = n := by omega
      have HC : Hid (dB (Pl.Has i f x) = false) := dB_ff (fun ⟨j, hj, e⟩ => hP.out j hj e)
      go_wp2_with fail
      go_ret
      exact ⟨by rw [HC.out]; rfl, rfl⟩
/-- A row that stands in one of the first ways. -/
noncomputable def Pl.uA (LN : Nat → Nat) (L : Nat → Nat → Int) (i r : Nat) : Bool := dB (∃ i', i' < i ∧ ∃ k, k < LN i' ∧ L i' k = (r : Int))
theorem Pl.uA_zero {LN : Nat → Nat} {L : Nat → Nat → Int} : Pl.uA LN L 0 = fun _ => false := by
  funext r; exact dB_ff (fun ⟨i, hi, _⟩ => by omega)
theorem Pl.uA_uW {p : Pl.Plan} {LN : Nat → Nat} {L : Nat → Nat → Int} {i r : Nat} (h : Pl.gd p r) : Pl.uA LN L i r = Pl.uW p LN L i r := dB_congr ⟨fun x => ⟨h, x⟩, fun x => x.2⟩
/-- .. or among the last rows of this one. -/
noncomputable def Pl.uB (u : Nat → Bool) (l : Nat → Int) (m q r : Nat) : Bool := u r || dB (∃ j, q ≤ j ∧ j < m ∧ l j = (r : Int))
theorem Pl.uB_start {u : Nat → Bool} {l : Nat → Int} {m : Nat} : Pl.uB u l m m = u := by
  funext r; unfold Pl.uB; rw [dB_ff (fun ⟨j, h1, h2, _⟩ => by omega)]; simp
theorem Pl.uB_next {u : Nat → Bool} {l : Nat → Int} {m q r : Nat} (hq : q < m) (hr : l q = (r : Int)) : updB (Pl.uB u l m (q + 1)) r true = Pl.uB u l m q := by
  funext j
  unfold updB Pl.uB
  by_cases e : j = r
  · subst e
    rw [if_pos rfl, dB_tt ⟨q, Nat.le_refl _, hq, hr⟩]; simp
  · rw [if_neg e]
    congr 1
    refine dB_congr ⟨fun ⟨x, h1, h2, h3⟩ => ⟨x, by omega, h2, h3⟩, fun ⟨x, h1, h2, h3⟩ => ⟨x, ?_, h2, h3⟩⟩
    by_cases ex : x = q
    · subst ex; rw [hr] at h3; omega
    · omega
theorem Pl.uB_end {LN : Nat → Nat} {L : Nat → Nat → Int} {i : Nat} : Pl.uB (Pl.uA LN L i) (L i) (LN i) 0 = Pl.uA LN L (i + 1) := by
  funext r
  unfold Pl.uB Pl.uA
  by_cases h1 : ∃ i', i' < i ∧ ∃ k, k < LN i' ∧ L i' k = (r : Int)
  · rw [dB_tt h1, dB_tt (show ∃ i', i' < i + 1 ∧ ∃ k, k < LN i' ∧ L i' k = (r : Int) by obtain ⟨j, hj, x⟩ := h1; exact ⟨j, by omega, x⟩)]; rfl
  · rw [dB_ff h1, Bool.false_or]
    refine dB_congr ⟨fun ⟨k, _, hk, e⟩ => ⟨i, by omega, k, hk, e⟩, fun ⟨j, hj, k, hk, e⟩ => ?_⟩
    by_cases ej : j = i
    · subst ej; exact ⟨k, Nat.zero_le _, hk, e⟩
    · exact absurd ⟨j, by omega, k, hk, e⟩ h1
/-- What the last rows of a way show. -/
structure Pl.Bk (p : Pl.Plan) (l : Nat → Int) (u : Nat → Bool) (m q : Nat) : Prop where
  rng : ∀ j, q ≤ j → j < m → 0 ≤ l j ∧ l j < p.rn
  fresh : ∀ j, q ≤ j → j < m → Pl.gd p (l j).toNat → u (l j).toNat = false ∧ ∀ i, j < i → i < m → l i ≠ l j
theorem Pl.bk_use {p : Pl.Plan} {LN : Nat → Nat} {L : Nat → Nat → Int} {i : Nat} : Pl.Bk p (L i) (Pl.uA LN L i) (LN i) 0 ↔ Pl.Use p (L i) (Pl.uW p LN L i) (LN i) := by
  constructor
  · intro h
    refine ⟨fun j hj => h.rng j (Nat.zero_le _) hj, fun j hj gd => ⟨?_, fun k hk e => ?_⟩⟩
    · rw [← Pl.uA_uW gd]; exact (h.fresh j (Nat.zero_le _) hj gd).1
    · exact (h.fresh k (Nat.zero_le _) (by omega) (by rw [e]; exact gd)).2 j hk hj e.symm
  · intro h
    refine ⟨fun j _ hj => h.rng j hj, fun j _ hj gd => ⟨?_, fun k hk hkm e => ?_⟩⟩
    · rw [Pl.uA_uW gd]; exact (h.fresh j hj gd).1
    · exact (h.fresh k hkm (by rw [e]; exact gd)).2 j hk e.symm
theorem Pl.back_low {p : Pl.Plan} (h : Pl.Right p) {l : Nat → Int} {m : Nat} (hI : ∀ k, k < m → 0 ≤ l k ∧ l k < p.rn) {x : Int} {k : Nat} (hk : k < m) (e : Pl.back p l m x (k + 1) < 0) : ¬ Pl.Has p.sn p.S (Pl.back p l m x m) := by
  have h2 := hI (m - 1 - k) (by omega)
  have h3 := (Pl.oth_ge h (r := (l (m - 1 - k)).toNat) (by omega) (Pl.back p l m x k)).1
  have h4 : Pl.back p l m x (k + 1) = -1 := by
    have : Pl.back p l m x (k + 1) = Pl.oth p (l (m - 1 - k)).toNat (Pl.back p l m x k) := rfl
    omega
  have h5 := Pl.back_neg h hI h4 (m - (k + 1)) (by omega)
  rw [show k + 1 + (m - (k + 1)) = m by omega] at h5
  rw [h5]
  exact Pl.has_neg h
set_option maxRecDepth 100000 in
set_option maxHeartbeats 4000000 in
theorem specWays_any (n : Pl.Plan) (la : Option Addr) (lk : Nat) (fa : Option Addr) (fk : Nat) (wa : Option Addr) (wk : Nat) (place : Int) (a : Option Addr) (N cap : Nat) (LN : Nat → Nat) (L : Nat → Nat → Int) (w : World) (h : PlAt n la fa wa w) (hs : PlSmall n) (hl : LsAt a N LN L w)
    (hN : N ≤ 1048576) (hLN : ∀ i, i < N → LN i ≤ 1048576) :
    Calls Try.prog 23 #[plV n la lk fa fk wa wk, .int .i64 place, .slice a N cap] w fun e w' => e = .returned (.bool (dB (Pl.WaysOk n place N LN L))) ∧ Below w.heap.size w w' := by
  obtain ⟨W, hW⟩ : ∃ W, W = w.alloc (.cells #[.slice la n.rn lk, .slice fa n.sn fk, .slice wa n.hn wk] 26) := ⟨_, rfl⟩
  have HB : Hid (Below w.heap.size w W) := by show Below _ _ _; rw [hW]; exact nbel_alloc _ _
  have HR : Hid (W.rowIs w.heap.size 26 3 (rowN (plL n la lk fa fk wa wk))) := by show W.rowIs _ _ _ _; rw [hW]; exact rowN_alloc w _ _
  have H := Lib.hid h
  have HS := Lib.hid hs
  have HL := Lib.hid hl
  have HLN := Lib.hid hLN
  have HW := Lib.hid hW
  clear hW h hs hl hLN
  go_enter Try.func23, Try.ntmps23
  go_wp2_with fail
  rw [← HW.out]
  refine (specPlan_any n la lk fa fk wa wk _ (H.out.below HB.out) HS.out).mono ?_
  rintro e w1 ⟨rfl, hb1⟩
  have HB1 : Hid (Below w.heap.size w w1) := HB.out.trans (hb1.mono HB.out.size)
  have HR1 := Lib.hid (nrow_below HR.out hb1)
  clear hb1 HB HR
  obtain ⟨⟨p0, p1, p2⟩, _⟩ := rowN3 HR1.out
  by_cases c2 : Pl.Right n
  case neg =>
    rw [dB_ff c2]
    have HE := Lib.hid (dB_ff (fun x : Pl.WaysOk n place N LN L => c2 x.right))
    clear c2
    go_wp2_with fail
    go_ret
    exact ⟨by rw [HE.out]; rfl, HB1.out⟩
  rw [dB_tt c2]
  have HRT := Lib.hid c2
  have hrn := c2.r
  have hhn := c2.h2
  clear c2
  by_cases q1 : place < 0
  · have HE := Lib.hid (dB_ff (fun x : Pl.WaysOk n place N LN L => by have := x.pl; omega))
    go_wp2_with fail
    go_ret
    exact ⟨by rw [HE.out]; rfl, HB1.out⟩
  by_cases q2 : (n.hn : Int) ≤ place
  · have HE := Lib.hid (dB_ff (fun x : Pl.WaysOk n place N LN L => by have := x.pl; omega))
    go_wp2_with fail
    go_ret
    exact ⟨by rw [HE.out]; rfl, HB1.out⟩
  by_cases q3 : (100 : Int) < (N : Int)
  · have HE := Lib.hid (dB_ff (fun x : Pl.WaysOk n place N LN L => by have := x.n; omega))
    go_wp2_with fail
    go_ret
    exact ⟨by rw [HE.out]; rfl, HB1.out⟩
  have HALL : Hid ((∀ i, i < N → Pl.WayOk n place LN L i) → dB (Pl.WaysOk n place N LN L) = true) := fun x => dB_tt ⟨HRT.out, ⟨by omega, by omega⟩, by omega, x⟩
  have HNO : Hid (∀ i, i < N → ¬ Pl.WayOk n place LN L i → dB (Pl.WaysOk n place N LN L) = false) := fun i hi x => dB_ff (fun y => x (y.ways i hi))
  have hN100 : N ≤ 100 := by omega
  have HPL : Hid (0 ≤ place ∧ place < n.hn) := ⟨by omega, by omega⟩
  have hmk := run_make_row' (P := Try.prog) 68 4 (.bool false) 1 Try.underlying68 binfo rfl .i64 .i64 n.rn (by omega) (by omega)
  have HST : Hid (WyS n la lk fa fk wa wk w1.heap.size (Pl.uA LN L 0) w (w1.alloc (bmkO n.rn))) := by
    refine ⟨HB1.out.alloc HB1.out.size _, nrow_below HR1.out (nbel_alloc _ _), ?_, HR1.out.lt⟩
    rw [Pl.uA_zero]
    exact World.rowIs_made w1 (.bool false) n.rn 4
  go_wp2_with fail
  clear hmk p0 p1 p2 q1 q2 q3
  go_loopw [8, 9, 10, 11, 12] (fun iv _ _ _ _ wr => ∃ (i : Nat), i ≤ N ∧ iv = .int .i64 i ∧ Hid (WyS n la lk fa fk wa wk w1.heap.size (Pl.uA LN L i) w wr) ∧ Hid (∀ j, j < i → Pl.WayOk n place LN L j)) (fun iv _ _ _ _ _ => N - (intOf iv).toNat)
  case atStart => exact ⟨0, Nat.zero_le _, rfl, HST, fun j hj => absurd hj (Nat.not_lt_zero _)⟩
  case round =>
    obtain ⟨i, hi, rfl, hS, hP⟩ := hrel
    clear HST
    by_cases hlt : i < N
    · have hltz : (i : Int) < (N : Int) := by omega
      obtain ⟨b, eb, ai, ci, cw, hai⟩ := (HL.out.below hS.out.old).one hlt
      subst eb
      have HAI0 : Hid (IsAt ai (LN i) (L i) w) := by
        obtain ⟨b0, e0, ai0, ci0, cw0, hai0⟩ := HL.out.one hlt
        simp at e0
        subst e0
        have ec : wr.cell? ⟨b, i, none⟩ = some (.slice ai0 (LN i) ci0) := (hS.out.old.cell (World.block_lt_of_cell? _ _ cw0)).trans cw0
        rw [cw] at ec
        simp at ec
        obtain ⟨rfl, rfl⟩ := ec
        exact hai0
      clear hai
      by_cases c4 : (100 : Int) < (LN i : Int)
      · have HE := Lib.hid (HNO.out i hlt (fun x => by have := x.len; omega))
        go_wp2_with fail
        go_ret
        exact ⟨by rw [HE.out]; rfl, hS.out.old⟩
      have hm : LN i ≤ 100 := by omega
      clear c4
      go_wp2_with fail
      clear cw
      go_loopw [10, 11, 12] (fun av kv _ wr => ∃ (q k : Nat), q + k = LN i ∧ kv = .int .i64 ((q : Int) - 1) ∧ av = .int .i64 (Pl.back n (L i) (LN i) place k) ∧ Hid (WyS n la lk fa fk wa wk w1.heap.size (Pl.uB (Pl.uA LN L i) (L i) (LN i) q) w wr) ∧ Hid (Pl.Bk n (L i) (Pl.uA LN L i) (LN i) q ∧ 0 ≤ Pl.back n (L i) (LN i) place k)) (fun _ kv _ _ => (intOf kv + 1).toNat)
      case atStart => exact ⟨LN i, 0, rfl, rfl, rfl, by show WyS _ _ _ _ _ _ _ _ _ _ _; rw [Pl.uB_start]; exact hS.out, ⟨⟨fun j h1 h2 => absurd h1 (by omega), fun j h1 h2 => absurd h1 (by omega)⟩, HPL.out.1⟩⟩
      case round =>
        obtain ⟨q, k, hqk, rfl, rfl, hT, hK⟩ := hrel
        obtain ⟨⟨p0, p1, p2⟩, _⟩ := rowN3 hT.out.row
        by_cases hq : q = 0
        · subst hq
          obtain rfl : k = LN i := by omega
          go_wp2_with fail
          refine (shas_any fa n.sn fk n.S _ _ (H.out.f.below hT.out.old) (by have := HRT.out.sn40; omega)).mono ?_
          rintro e w3 ⟨rfl, rfl⟩
          have HU0 := Lib.hid (Pl.bk_use.1 hK.out.1)
          by_cases c6 : Pl.Has n.sn n.S (Pl.back n (L i) (LN i) place (LN i))
          · rw [dB_tt c6]
            have HOK : Hid (Pl.WayOk n place LN L i) := ⟨hm, HU0.out, c6⟩
            have HT2 : Hid (WyS n la lk fa fk wa wk w1.heap.size (Pl.uA LN L (i + 1)) w w3) := by
              show WyS _ _ _ _ _ _ _ _ _ _ _
              rw [← Pl.uB_end]; exact hT.out
            clear c6
            go_wp2_with fail
            go_roundw
            case rel =>
              refine ⟨i + 1, by omega, by go_num, HT2, fun j hj => ?_⟩
              by_cases ej : j = i
              · subst ej; exact HOK.out
              · exact hP.out j (by omega)
            case measure => simp [intOf]; omega
          · rw [dB_ff c6]
            have HE := Lib.hid (HNO.out i hlt (fun x => c6 x.ends))
            clear c6
            go_wp2_with fail
            go_ret
            exact ⟨by rw [HE.out]; rfl, hT.out.old⟩
        · obtain ⟨j, rfl⟩ : ∃ j, q = j + 1 := ⟨q - 1, by omega⟩
          have ejj : ((j + 1 : Nat) : Int) - 1 = (j : Int) := by omega
          rw [ejj]
          clear hq
          have hjm : (j : Int) < (LN i : Int) := by omega
          have hjl : j < LN i := by omega
          obtain ⟨b2, eb2, cl⟩ := (HAI0.out.below hT.out.old).at1 hjl
          subst eb2
          have HOLD : Hid (Below w.heap.size w wr) := hT.out.old
          by_cases r1 : L i j < 0
          · have HE := Lib.hid (HNO.out i hlt (fun x => by have := x.use.rng j hjl; omega))
            have e1 : decide (L i j < 0) = true := by simpa using r1
            clear r1
            go_wp2_with fail
            go_quiet (fail)
            go_wp2_with fail
            go_ret
            exact ⟨by rw [HE.out]; rfl, ndrewN HOLD.out _⟩
          have e1 : decide (L i j < 0) = false := by simpa using r1
          by_cases r2 : (n.rn : Int) ≤ L i j
          · have HE := Lib.hid (HNO.out i hlt (fun x => by have := x.use.rng j hjl; omega))
            have e2 : decide ((n.rn : Int) ≤ L i j) = true := by simpa using r2
            clear r1 r2
            go_wp2_with fail
            go_quiet (fail)
            go_wp2_with fail
            go_ret
            exact ⟨by rw [HE.out]; rfl, ndrewN HOLD.out _⟩
          have e2 : decide ((n.rn : Int) ≤ L i j) = false := by simpa using r2
          obtain ⟨r, hrr⟩ : ∃ r : Nat, L i j = (r : Int) := ⟨(L i j).toNat, by omega⟩
          have hrl : r < n.rn := by omega
          have hrlz : (r : Int) < (n.rn : Int) := by omega
          rw [hrr] at cl e1 e2
          have HRR := Lib.hid hrr
          clear r1 r2 hrr
          go_wp2_with fail
          go_quiet (fail)
          go_wp2_with fail
          generalize hW1 : World.drewN wr _ = W1
          have HT1 : Hid (WyS n la lk fa fk wa wk w1.heap.size (Pl.uB (Pl.uA LN L i) (L i) (LN i) (j + 1)) w W1) := by
            rw [← hW1]
            have hb : ∀ m, Below wr.heap.size wr (wr.drewN m) := fun m => ndrewN (Below.refl _ _) m
            exact ⟨hT.out.old.trans ((hb _).mono hT.out.old.size), nrow_below hT.out.row (hb _), hT.out.blk.below (hb _), hT.out.lo⟩
          clear hW1 hT HOLD p0 p1 p2 cl
          obtain ⟨⟨p0, p1, p2⟩, _⟩ := rowN3 HT1.out.row
          obtain ⟨b2', eb2', cl⟩ := (HAI0.out.below HT1.out.old).at1 hjl
          simp at eb2'
          subst eb2'
          rw [HRR.out] at cl
          obtain ⟨b, eb2, c0, c1, c2⟩ := (H.out.below HT1.out.old).l.at3 hrl
          subst eb2
          go_cut [12] (fun p V => ∃ gb, p = .pointer (some ⟨gb, 0, none⟩) ∧ Hid (V.rowIs gb 32 3 (rowN [.int .i64 (n.R (r * 3)), .int .i64 (n.R (r * 3 + 1)), .int .i64 (n.R (r * 3 + 2))]) ∧ Below W1.heap.size W1 V ∧ W1.heap.size ≤ gb))
          case first =>
            refine wp_region_held_drew (S := fun V => Below W1.heap.size W1 V) (by kernel_rfl) (Below.refl _ _).drew (fun hHeld => ?_)
            obtain ⟨Z, hZ⟩ : ∃ Z, Z = W1.drew := ⟨_, rfl⟩
            rw [← hZ] at hHeld ⊢
            clear hZ
            refine take_do (i := 0) (v := (.pointer (some ⟨w.heap.size, 0, none⟩))) rfl (by kernel_rfl) (by kernel_rfl) (by kernel_rfl) (fun _ _ _ h => h) (by rfl) ?_ (by assumption) ?_
            · intro w hSw
              skip
              go_simp
            simp only [Act.put, List.setIfInBounds_toArray, List.set_cons_zero, List.set_cons_succ]
            refine take_do (i := 1) (v := (.slice (some ⟨b, 0, none⟩) n.rn lk)) rfl (by kernel_rfl) (by kernel_rfl) (by kernel_rfl) (fun _ _ _ h => h) (by rfl) ?_ (by assumption) ?_
            · intro w hSw
              have hc_p0 := (hSw.cell (World.block_lt_of_cell? _ _ p0)).trans p0
              go_simp
            simp only [Act.put, List.setIfInBounds_toArray, List.set_cons_zero, List.set_cons_succ]
            refine take_do (i := 2) (v := (.slice (some ⟨b2, 0, none⟩) (LN i) ci)) rfl (by kernel_rfl) (by kernel_rfl) (by kernel_rfl) (fun _ _ _ h => h) (by rfl) ?_ (by assumption) ?_
            · intro w hSw
              skip
              go_simp
            simp only [Act.put, List.setIfInBounds_toArray, List.set_cons_zero, List.set_cons_succ]
            refine take_do (i := 3) (v := (.int .i64 (j : Nat))) rfl (by kernel_rfl) (by kernel_rfl) (by kernel_rfl) (fun _ _ _ h => h) (by rfl) ?_ (by assumption) ?_
            · intro w hSw
              skip
              go_simp
            simp only [Act.put, List.setIfInBounds_toArray, List.set_cons_zero, List.set_cons_succ]
            refine take_do (i := 4) (v := (.pointer (some ⟨b2, j, none⟩))) rfl (by kernel_rfl) (by kernel_rfl) (by kernel_rfl) (fun _ _ _ h => h) (by rfl) ?_ (by assumption) ?_
            · intro w hSw
              skip
              go_simp
            simp only [Act.put, List.setIfInBounds_toArray, List.set_cons_zero, List.set_cons_succ]
            refine take_do (i := 5) (v := (.int .i64 (r : Nat))) rfl (by kernel_rfl) (by kernel_rfl) (by kernel_rfl) (fun _ _ _ h => h) (by rfl) ?_ (by assumption) ?_
            · intro w hSw
              have hc_cl := (hSw.cell (World.block_lt_of_cell? _ _ cl)).trans cl
              go_simp
            simp only [Act.put, List.setIfInBounds_toArray, List.set_cons_zero, List.set_cons_succ]
            refine take_do (i := 6) (v := (.pointer (some ⟨b, r * 3, none⟩))) rfl (by kernel_rfl) (by kernel_rfl) (by kernel_rfl) (fun _ _ _ h => h) (by rfl) ?_ (by assumption) ?_
            · intro w hSw
              skip
              go_simp
            simp only [Act.put, List.setIfInBounds_toArray, List.set_cons_zero, List.set_cons_succ]
            refine take_do (i := 7) (v := (.agg #[.int .i64 (n.R (r * 3)), .int .i64 (n.R (r * 3 + 1)), .int .i64 (n.R (r * 3 + 2))])) rfl (by kernel_rfl) (by kernel_rfl) (by kernel_rfl) (fun _ _ _ h => h) (by rfl) ?_ (by assumption) ?_
            · intro w hSw
              have hc_c0 := (hSw.cell (World.block_lt_of_cell? _ _ c0)).trans c0
              have hc_c1 := (hSw.cell (World.block_lt_of_cell? _ _ c1)).trans c1
              have hc_c2 := (hSw.cell (World.block_lt_of_cell? _ _ c2)).trans c2
              go_simp
            simp only [Act.put, List.setIfInBounds_toArray, List.set_cons_zero, List.set_cons_succ]
            refine take_call (i := 8) rfl (by kernel_rfl) (fun K2 hK => ?_)
            obtain ⟨Z1, hZ1⟩ : ∃ Z1, Z1 = Z.alloc (.cells #[.int .i64 0, .int .i64 0, .int .i64 0] 32) := ⟨_, rfl⟩
            have hb : Below Z.heap.size Z Z1 := by rw [hZ1]; exact nbel_alloc _ _
            obtain ⟨gb, hgb⟩ : ∃ gb, gb = Z.heap.size := ⟨_, rfl⟩
            have RZ : Hid (Z1.rowIs gb 32 3 (rowN [.int .i64 0, .int .i64 0, .int .i64 0])) := by show World.rowIs _ _ _ _ _; rw [hZ1, hgb]; exact rowN_alloc _ _ _
            have HGB : Hid (W1.heap.size ≤ gb) := by show _ ≤ _; rw [hgb]; exact hHeld.size
            go_simp
            rw [← hZ1, ← hgb]
            refine hK.out _ _ (hHeld.trans (hb.mono hHeld.size)) (fun hHeld2 => ?_)
            clear hK hHeld
            have hHeld := hHeld2
            clear hHeld2
            clear hb hZ1 hgb
            have o0 := RZ.out.cell (i := 0) (by omega)
            have z0 := RZ.out.frozen 0
            have o1 := RZ.out.cell (i := 1) (by omega)
            have z1 := RZ.out.frozen 1
            have o2 := RZ.out.cell (i := 2) (by omega)
            have z2 := RZ.out.frozen 2
            have l0 := RZ.out.lt
            obtain ⟨WZ, hWZ⟩ : ∃ WZ, WZ = (((Z1.setCell ⟨gb, 0, none⟩ (.int .i64 (n.R (r * 3)))).setCell ⟨gb, 1, none⟩ (.int .i64 (n.R (r * 3 + 1)))).setCell ⟨gb, 2, none⟩ (.int .i64 (n.R (r * 3 + 2)))) := ⟨_, rfl⟩
            have hbZ : Below W1.heap.size W1 WZ := by rw [hWZ]; exact (((hHeld.setCell (p := ⟨gb, 0, none⟩) HGB.out _).setCell (p := ⟨gb, 1, none⟩) HGB.out _).setCell (p := ⟨gb, 2, none⟩) HGB.out _)
            have HFM : Hid (WZ.rowIs gb 32 3 (rowN [.int .i64 (n.R (r * 3)), .int .i64 (n.R (r * 3 + 1)), .int .i64 (n.R (r * 3 + 2))])) := by show World.rowIs _ _ _ _ _; rw [hWZ]; exact (rowN_put (rowN_put (rowN_put RZ.out 0 (.int .i64 (n.R (r * 3))) (by simp)) 1 (.int .i64 (n.R (r * 3 + 1))) (by simp)) 2 (.int .i64 (n.R (r * 3 + 2))) (by simp))
            have HWZ := Lib.hid hWZ
            have HBZ := Lib.hid hbZ
            clear hWZ hbZ
            refine take_call (i := 9) rfl (by kernel_rfl) (fun K2 hK => ?_)
            go_simp
            rw [← HWZ.out]
            refine hK.out _ _ HBZ.out (fun hHeld2 => ?_)
            clear hK hHeld hHeld2 HWZ o0 z0 o1 z1 o2 z2 l0
            refine wpAnyH_done (by kernel_rfl) ?_ _
            go_wp2_with fail
            go_meet
            case rel => exact ⟨gb, rfl, HFM.out, HBZ.out, HGB.out⟩
          case rest =>
          obtain ⟨gb, rfl, hC⟩ := hcut
          obtain ⟨V0, hV0⟩ : ∃ V0, V0 = wc := ⟨_, rfl⟩
          rw [← hV0] at hC ⊢
          clear hV0
          have HT2 : Hid (WyS n (some ⟨b, 0, none⟩) lk fa fk wa wk w1.heap.size (Pl.uB (Pl.uA LN L i) (L i) (LN i) (j + 1)) w V0) := ⟨HT1.out.old.trans (hC.out.2.1.mono HT1.out.old.size), nrow_below HT1.out.row hC.out.2.1, HT1.out.blk.below hC.out.2.1, HT1.out.lo⟩
          have HGN : Hid (gb ≠ w1.heap.size) := by
            have h1 := World.rowIs.lt HT1.out.blk
            have h2 := hC.out.2.2
            show gb ≠ w1.heap.size
            omega
          have hgn : gb ≠ w1.heap.size := HGN.out
          have HRG := Lib.hid hC.out.1
          clear hC HT1 p0 p1 p2 cl c0 c1 c2
          obtain ⟨⟨x0, x1, x2⟩, _⟩ := rowN3 HRG.out
          obtain ⟨b2', eb2', cl⟩ := (HAI0.out.below HT2.out.old).at1 hjl
          simp at eb2'
          subst eb2'
          rw [HRR.out] at cl
          have cu := World.rowIs.cell HT2.out.blk hrl
          have zu := World.rowIs.frozen HT2.out.blk r
          have zg := World.rowIs.lt HT2.out.blk
          have HBN : Hid (Pl.gd n r → Pl.uB (Pl.uA LN L i) (L i) (LN i) (j + 1) r = true → ¬ Pl.WayOk n place LN L i) := fun gd hu x => by
            unfold Pl.uB at hu
            simp at hu
            have hrr := HRR.out
            have q3 : (L i j).toNat = r := by omega
            have hb := (Pl.bk_use.2 x.use).fresh j (Nat.zero_le _) hjl (by rw [q3]; exact gd)
            rw [q3] at hb
            rcases hu with hu | hu
            · rw [hb.1] at hu; cases hu
            · obtain ⟨j', h1, h2, h3⟩ := dB_iff.1 hu
              exact hb.2 j' (by omega) h2 (by omega)
          have HBK1 : Hid ((Pl.gd n r → Pl.uB (Pl.uA LN L i) (L i) (LN i) (j + 1) r = false) → Pl.Bk n (L i) (Pl.uA LN L i) (LN i) j) := fun hf => by
            have hrr := HRR.out
            have q3 : (L i j).toNat = r := by omega
            refine ⟨fun j' h1 h2 => ?_, fun j' h1 h2 gd => ?_⟩
            · by_cases e : j' = j
              · subst e; omega
              · exact hK.out.1.rng j' (by omega) h2
            · by_cases e : j' = j
              · subst e
                rw [q3] at gd ⊢
                have hu := hf gd
                unfold Pl.uB at hu
                simp at hu
                refine ⟨hu.1, fun i' hi1 hi2 ei => ?_⟩
                have := hu.2
                rw [dB_tt ⟨i', by omega, hi2, by omega⟩] at this
                cases this
              · exact hK.out.1.fresh j' (by omega) h2 gd
          have HS1 : Hid (BBlk w1.heap.size n.rn (Pl.uB (Pl.uA LN L i) (L i) (LN i) j) (V0.setCell ⟨w1.heap.size, r, none⟩ (.bool true))) := by
            show BBlk _ _ _ _
            rw [← Pl.uB_next hjl HRR.out]
            exact BBlk.set HT2.out.blk r true
          have HLO : Hid (w.heap.size < w1.heap.size) := HT2.out.lo
          have HB5 : Hid (Below w.heap.size w (V0.setCell ⟨w1.heap.size, r, none⟩ (.bool true))) := HT2.out.old.setCell (p := ⟨w1.heap.size, r, none⟩) (Nat.le_of_lt HLO.out) _
          have HR5 : Hid ((V0.setCell ⟨w1.heap.size, r, none⟩ (.bool true)).rowIs w.heap.size 26 3 (rowN (plL n (some ⟨b, 0, none⟩) lk fa fk wa wk))) := nrow_set HT2.out.row (p := ⟨w1.heap.size, r, none⟩) (by show w.heap.size ≠ w1.heap.size; have := HLO.out; omega) _
          have HOLD : Hid (Below w.heap.size w V0) := HT2.out.old
          obtain ⟨V5, hV5⟩ : ∃ V5, V5 = V0.setCell ⟨w1.heap.size, r, none⟩ (.bool true) := ⟨_, rfl⟩
          have HV5 := Lib.hid hV5
          rw [← hV5] at HS1 HB5 HR5
          clear hV5 HT2
          have FIN : Hid (∀ w7, Below V5.heap.size V5 w7 → WyS n (some ⟨b, 0, none⟩) lk fa fk wa wk w1.heap.size (Pl.uB (Pl.uA LN L i) (L i) (LN i) j) w w7) := fun w7 hb => ⟨HB5.out.trans (hb.mono HB5.out.size), nrow_below HR5.out hb, HS1.out.below hb, HLO.out⟩
          have HLOW : Hid (Pl.Use n (L i) (Pl.uW n LN L i) (LN i) → Pl.oth n r (Pl.back n (L i) (LN i) place k) < 0 → ¬ Pl.WayOk n place LN L i) := fun hu hneg x => by
            refine Pl.back_low HRT.out hu.rng (k := k) (by omega) ?_ x.ends
            show Pl.oth n (L i (LN i - 1 - k)).toNat _ < 0
            rw [show LN i - 1 - k = j by omega, HRR.out]
            exact hneg
          have HBAK : Hid (Pl.back n (L i) (LN i) place (k + 1) = Pl.oth n r (Pl.back n (L i) (LN i) place k)) := by
            show Pl.oth n (L i (LN i - 1 - k)).toNat _ = _
            rw [show LN i - 1 - k = j by omega, HRR.out]
            rfl
          by_cases r5 : n.R (r * 3 + 2) = 1
          · have e5 : (n.R (r * 3 + 2) == 1) = true := by simp [r5]
            have HGD : Hid (Pl.gd n r) := r5
            clear r5
            cases hux : Pl.uB (Pl.uA LN L i) (L i) (LN i) (j + 1) r with
            | true =>
              rw [hux] at cu
              have HE := Lib.hid (HNO.out i hlt (HBN.out HGD.out hux))
              clear hux
              go_wp2_with fail
              go_ret
              exact ⟨by rw [HE.out]; rfl, HOLD.out⟩
            | false =>
              rw [hux] at cu
              have HBKJ := Lib.hid (HBK1.out (fun _ => hux))
              clear hux HBN HBK1
              go_wp2_with fail
              rw [← HV5.out]
              refine (sother_any n r _ _).mono ?_
              rintro e w7 ⟨rfl, hb7⟩
              have HT7 := Lib.hid (FIN.out w7 hb7)
              clear hb7
              by_cases r8 : Pl.oth n r (Pl.back n (L i) (LN i) place k) < 0
              · have HE : Hid (dB (Pl.WaysOk n place N LN L) = false) := HNO.out i hlt (fun x => HLOW.out x.use r8 x)
                go_wp2_with fail
                go_ret
                exact ⟨by rw [HE.out]; rfl, HT7.out.old⟩
              · go_wp2_with fail
                go_roundw
                case rel => exact ⟨j, k + 1, by omega, by go_num, by rw [HBAK.out], HT7, HBKJ.out, by rw [HBAK.out]; omega⟩
                case measure => simp [intOf]
          · have e5 : (n.R (r * 3 + 2) == 1) = false := by simp [r5]
            have HBKJ := Lib.hid (HBK1.out (fun g => absurd g r5))
            clear r5 HBN HBK1
            go_wp2_with fail
            rw [← HV5.out]
            refine (sother_any n r _ _).mono ?_
            rintro e w7 ⟨rfl, hb7⟩
            have HT7 := Lib.hid (FIN.out w7 hb7)
            clear hb7
            by_cases r8 : Pl.oth n r (Pl.back n (L i) (LN i) place k) < 0
            · have HE : Hid (dB (Pl.WaysOk n place N LN L) = false) := HNO.out i hlt (fun x => HLOW.out x.use r8 x)
              go_wp2_with fail
              go_ret
              exact ⟨by rw [HE.out]; rfl, HT7.out.old⟩
            · go_wp2_with fail
              go_roundw
              case rel => exact ⟨j, k + 1, by omega, by go_num, by rw [HBAK.out], HT7, HBKJ.out, by rw [HBAK.out]; omega⟩
              case measure => simp [intOf]
    · obtain rfl : i = N := by omega
      obtain ⟨⟨p0, p1, p2⟩, _⟩ := rowN3 hS.out.row
      go_wp2_with fail
      go_ret
      exact ⟨by rw [HALL.out hP.out]; rfl, hS.out.old⟩
end Go.Proofs.Ytipmjobhegpdgaa
