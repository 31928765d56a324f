/-
  Right notices and what is not over: the model.
-/
import Derived.Test.YtjfeipgeppegcaaNnI1
namespace Go.Proofs.Ytjfeipgeppegcaa
open Go.RowKit Go.Deep

set_option maxRecDepth 100000 in
set_option maxHeartbeats 4000000 in
theorem snotice_any (x : Ne) (w : World) (h : NeL x w) (hs : x.an ≤ 1048576) :
    Calls Try.prog 41 #[nnV x] w fun e w' => e = .returned (.bool (dB (No.NtOk x))) ∧ Below w.heap.size w w' := by
  obtain ⟨nu, st, pa, an, ak, A, fl⟩ := x
  have hs2 : an ≤ 1048576 := hs
  clear hs
  obtain ⟨W, hW⟩ : ∃ W, W = w.alloc (.cells #[.int .i64 nu, .int .i64 st, .slice pa an ak, .bool fl] 58) := ⟨_, rfl⟩
  have HB : Hid (Below w.heap.size w W) := by show Below _ _ _; rw [hW]; exact nbel_alloc _ _
  have H : Hid (IsAt pa an A W) := IsAt.below h HB.out
  have HW := Lib.hid hW
  clear hW h
  cases fl with
  | true =>
    clear H
    by_cases c1 : nu = 0
    · by_cases c2 : st = 0
      · by_cases c3 : an = 0
        · have HE := Lib.hid (dB_tt (show No.NtOk ⟨nu, st, pa, an, ak, A, true⟩ from ⟨fun _ => ⟨c1, c2, c3⟩, fun k => by cases k⟩))
          subst c1 c2 c3
          go_enter Try.func41, Try.ntmps41
          go_wp2_with fail
          rw [← HW.out]
          go_ret
          exact ⟨by rw [HE.out]; rfl, HB.out⟩
        · have HE := Lib.hid (dB_ff (show ¬ No.NtOk ⟨nu, st, pa, an, ak, A, true⟩ from fun k => c3 (k.1 rfl).2.2))
          have d3 : ((an : Int) == 0) = false := by simp; omega
          subst c1 c2
          clear c3
          go_enter Try.func41, Try.ntmps41
          go_wp2_with fail
          rw [← HW.out]
          go_ret
          exact ⟨by rw [HE.out]; try rfl, HB.out⟩
      · have HE := Lib.hid (dB_ff (show ¬ No.NtOk ⟨nu, st, pa, an, ak, A, true⟩ from fun k => c2 (k.1 rfl).2.1))
        have d2 : (st == 0) = false := by simp [c2]
        subst c1
        clear c2
        go_enter Try.func41, Try.ntmps41
        go_wp2_with fail
        rw [← HW.out]
        go_ret
        exact ⟨by rw [HE.out]; try rfl, HB.out⟩
    · have HE := Lib.hid (dB_ff (show ¬ No.NtOk ⟨nu, st, pa, an, ak, A, true⟩ from fun k => c1 (k.1 rfl).1))
      have d1 : (nu == 0) = false := by simp [c1]
      clear c1
      go_enter Try.func41, Try.ntmps41
      go_wp2_with fail
      rw [← HW.out]
      go_ret
      exact ⟨by rw [HE.out]; try rfl, HB.out⟩
  | false =>
    have HNO : Hid (¬ ((1 ≤ nu ∧ nu ≤ 99) ∧ (0 ≤ st ∧ st ≤ 9)) → dB (No.NtOk ⟨nu, st, pa, an, ak, A, false⟩) = false) := fun c => dB_ff (fun k => c ⟨(k.2 rfl).1, (k.2 rfl).2.1⟩)
    by_cases c1 : 1 ≤ nu
    case neg =>
      have HE := Lib.hid (HNO.out (fun k => c1 k.1.1))
      go_enter Try.func41, Try.ntmps41
      go_wp2_with fail
      rw [← HW.out]
      go_ret
      exact ⟨by rw [HE.out]; try rfl, HB.out⟩
    by_cases c2 : nu ≤ 99
    case neg =>
      have HE := Lib.hid (HNO.out (fun k => c2 k.1.2))
      go_enter Try.func41, Try.ntmps41
      go_wp2_with fail
      rw [← HW.out]
      go_ret
      exact ⟨by rw [HE.out]; try rfl, HB.out⟩
    by_cases c3 : 0 ≤ st
    case neg =>
      have HE := Lib.hid (HNO.out (fun k => c3 k.2.1))
      go_enter Try.func41, Try.ntmps41
      go_wp2_with fail
      rw [← HW.out]
      go_ret
      exact ⟨by rw [HE.out]; try rfl, HB.out⟩
    by_cases c4 : st ≤ 9
    case neg =>
      have HE := Lib.hid (HNO.out (fun k => c4 k.2.2))
      go_enter Try.func41, Try.ntmps41
      go_wp2_with fail
      rw [← HW.out]
      go_ret
      exact ⟨by rw [HE.out]; try rfl, HB.out⟩
    have HYES : Hid (Pl.Rising an A 100 → No.NtOk ⟨nu, st, pa, an, ak, A, false⟩) := fun c => ⟨fun k => by (cases k), fun _ => ⟨⟨c1, c2⟩, ⟨c3, c4⟩, c⟩⟩
    go_enter Try.func41, Try.ntmps41
    go_wp2_with fail
    rw [← HW.out]
    clear HW
    refine (srising_any pa an ak A 100 _ H.out hs2 (by omega)).mono ?_
    rintro e w1 ⟨rfl, hb⟩
    replace HB : Hid (Below w.heap.size w w1) := HB.out.trans (hb.mono HB.out.size)
    clear hb c1 c2 c3 c4
    by_cases c : Pl.Rising an A 100
    · have HE := Lib.hid (dB_tt (HYES.out c))
      rw [dB_tt c]
      clear c
      go_wp2_with fail
      go_ret
      exact ⟨by rw [HE.out]; rfl, HB.out⟩
    · have HE := Lib.hid (dB_ff (show ¬ No.NtOk ⟨nu, st, pa, an, ak, A, false⟩ from fun k => c (k.2 rfl).2.2))
      rw [dB_ff c]
      clear c
      go_wp2_with fail
      go_ret
      exact ⟨by rw [HE.out]; rfl, HB.out⟩
set_option maxRecDepth 100000 in
set_option maxHeartbeats 4000000 in
theorem snotices_any (la : Option Addr) (n lk : Nat) (bs : Nat → Ne) (w : World) (h : NnsAt la n bs w) (hn : NSm n bs) :
    Calls Try.prog 33 #[.slice la n lk] w fun e w' => e = .returned (.bool (dB (No.NtsOk n bs))) ∧ Below w.heap.size w w' := by
  have H := Lib.hid h
  have hs := hn.1
  have HN := Lib.hid hn
  clear h hn
  go_enter Try.func33, Try.ntmps33
  go_wp2_with fail
  go_loopw [3] (fun iv wr => ∃ (i : Nat), i ≤ n ∧ iv = .int .i64 i ∧ Hid (Below w.heap.size w wr) ∧ Hid (No.NtsOk i bs)) (fun iv _ => n - (intOf iv).toNat)
  case atStart => exact ⟨0, Nat.zero_le _, rfl, Below.refl _ _, fun j hj => absurd hj (Nat.not_lt_zero _)⟩
  case round =>
    obtain ⟨i, hi, rfl, hB, hP⟩ := hrel
    by_cases hlt : i < n
    · have hltz : (i : Int) < (n : Int) := by omega
      obtain ⟨b, rfl, ⟨c0, c1, c2, c3⟩, hat⟩ := (H.out.below hB.out).at_ hlt
      have HAT := Lib.hid hat
      clear hat
      go_wp2_with fail
      refine (snotice_any (bs i) _ HAT.out (HN.out.2.2 i hlt)).mono ?_
      rintro e w1 ⟨rfl, hb⟩
      have HB1 : Hid (Below w.heap.size w w1) := hB.out.trans (hb.mono hB.out.size)
      clear hb c0 c1 c2 c3
      by_cases c : No.NtOk (bs i)
      · rw [dB_tt c]
        have HC := Lib.hid c
        clear c
        go_wp2_with fail
        go_roundw
        case rel => exact ⟨i + 1, by omega, by go_num, HB1, fun j hj => by
          by_cases e : j = i
          · subst e; exact HC.out
          · exact hP.out j (by omega)⟩
        case measure => simp [intOf]; omega
      · rw [dB_ff c]
        have HE := Lib.hid (dB_ff (show ¬ No.NtsOk n bs from fun x => c (x i hlt)))
        clear c
        go_wp2_with fail
        go_ret
        exact ⟨by rw [HE.out]; rfl, HB1.out⟩
    · obtain rfl : i = n := by omega
      have HE := Lib.hid (dB_tt hP.out)
      go_wp2_with fail
      go_ret
      exact ⟨by rw [HE.out]; rfl, hB.out⟩
theorem No.opn_yes {nu st : Nat → Int} {fl : Nat → Bool} {i : Nat} {n : Int} (h : fl i = false) (h2 : nu i = n) : No.opn nu st fl (i + 1) n = st i := by simp [No.opn, h, h2]
theorem No.opn_flush {nu st : Nat → Int} {fl : Nat → Bool} {i : Nat} {n : Int} (h : fl i = true) : No.opn nu st fl (i + 1) n = No.opn nu st fl i n := by simp [No.opn, h]
theorem No.opn_other {nu st : Nat → Int} {fl : Nat → Bool} {i : Nat} {n : Int} (h2 : nu i ≠ n) : No.opn nu st fl (i + 1) n = No.opn nu st fl i n := by simp [No.opn, h2]
theorem nug_empty (w : World) : (w.alloc (.cells #[] 2)).ownsRow w.heap.size 2 1 (.slice (some ⟨w.heap.size, 0, none⟩) 0 0) 0 (ugV []) := by
  refine ⟨by simp [ugV], Or.inr ⟨w.heap.size, 0, #[], rfl, by omega, ?_, by omega, by omega, by simp, by simp [ugV]⟩⟩
  exact blk_alloc_new w (.cells #[] 2)
theorem nug_below {B n : Nat} {v : Value} {xs : List Value} {W W' : World} (h : W.ownsRow B 2 1 v n xs) (hb : Below W.heap.size W W') : W'.ownsRow B 2 1 v n xs := by
  refine ⟨h.1, ?_⟩
  rcases h.2 with h2 | ⟨g, cap, cur, e1, e2, e3, e4, e5, e6, e7⟩
  · exact Or.inl h2
  · exact Or.inr ⟨g, cap, cur, e1, e2, (hb.block g (Array.getElem?_eq_some_iff.1 e3).1).trans e3, e4, e5, e6, e7⟩
set_option maxRecDepth 100000 in
set_option maxHeartbeats 8000000 in
theorem specOpen_any (la : Option Addr) (n lk : Nat) (bs : Nat → Ne) (w : World) (h : NnsAt la n bs w) (hn : NSm n bs) :
    Calls Try.prog 18 #[.slice la n lk] w fun e w' => NlEnd (No.opens n bs) w e w' ∧ Below w.heap.size w w' := by
  obtain ⟨i1, hi1, hy0, hy1, hy2⟩ := info_parts uginfo
  have HPI := Lib.hid (And.intro hi1 (And.intro hy0 (And.intro hy1 hy2)))
  obtain ⟨W, hW⟩ : ∃ W, W = w.alloc (.cells #[] 2) := ⟨_, rfl⟩
  have HB : Hid (Below w.heap.size w W) := by show Below _ _ _; rw [hW]; exact nbel_alloc _ _
  have HO : Hid (W.ownsRow w.heap.size 2 1 (.slice (some ⟨w.heap.size, 0, none⟩) 0 0) 0 (ugV [])) := by show World.ownsRow _ _ _ _ _ _ _; rw [hW]; exact nug_empty w
  have H := Lib.hid h
  have HW := Lib.hid hW
  have hs := hn.1
  clear h hW hi1 hy0 hy1 hy2
  by_cases hbig : 400 < n
  · have HE := Lib.hid (No.opens_no (show ¬ No.NtRight n bs from fun k => by have := k.1; omega))
    have h1 : (400 : Int) < (n : Int) := by omega
    clear hbig
    go_enter Try.func18, Try.ntmps18
    go_wp2_with fail
    rw [← HW.out]
    go_ret
    exact ⟨by rw [HE.out]; exact NlEnd.of (Nat.le_refl _) HO.out, HB.out⟩
  have h1 : ¬ (400 : Int) < (n : Int) := by omega
  have HN4 : Hid (n ≤ 400) := by show n ≤ 400; omega
  go_enter Try.func18, Try.ntmps18
  go_wp2_with fail
  rw [← HW.out]
  clear HW
  refine (snotices_any la n lk bs _ (H.out.below HB.out) hn).mono ?_
  rintro e w1 ⟨rfl, hb⟩
  replace HB : Hid (Below w.heap.size w w1) := HB.out.trans (hb.mono HB.out.size)
  replace HO := Lib.hid (nug_below HO.out hb)
  clear hb hn h1 hbig
  by_cases c : No.NtsOk n bs
  case neg =>
    have HE := Lib.hid (No.opens_no (fun k => c k.2))
    rw [dB_ff c]
    clear c
    go_wp2_with fail
    go_ret
    exact ⟨by rw [HE.out]; exact NlEnd.of (Nat.le_refl _) HO.out, HB.out⟩
  have HE := Lib.hid (No.opens_yes (show No.NtRight n bs from ⟨HN4.out, c⟩))
  rw [dB_tt c]
  clear c
  obtain ⟨nu, hnu⟩ : ∃ nu, nu = fun i => (bs i).nu := ⟨_, rfl⟩
  obtain ⟨st, hst⟩ : ∃ st, st = fun i => (bs i).st := ⟨_, rfl⟩
  obtain ⟨fl, hfl⟩ : ∃ fl, fl = fun i => (bs i).fl := ⟨_, rfl⟩
  have HC : Hid (∀ W, Below w.heap.size w W → ∀ i, i < n → ∃ b, la = some ⟨b, 0, none⟩ ∧ W.cell? ⟨b, i * 4, none⟩ = some (.int .i64 (nu i)) ∧ W.cell? ⟨b, i * 4 + 1, none⟩ = some (.int .i64 (st i)) ∧ W.cell? ⟨b, i * 4 + 3, none⟩ = some (.bool (fl i))) := fun W hW i hi => by
    obtain ⟨b, e, ⟨c0, c1, _, c3⟩, _⟩ := (H.out.below hW).at_ hi
    rw [hnu, hst, hfl]
    exact ⟨b, e, c0, c1, c3⟩
  rw [← hnu, ← hst, ← hfl] at HE
  clear hnu hst hfl
  have HM1 : Hid (Pg.mkL (No.uo nu st fl n) 1 = []) := by
    show Pg.mkL _ (0 + 1) = _
    rw [Pg.mkL_no (by simp [No.uo])]; rfl
  go_wp2_with fail
  go_loopw [3, 4, 5, 6] (fun dv iv _ _ wr => ∃ (a : Nat), 1 ≤ a ∧ a ≤ 100 ∧ iv = .int .i64 a ∧ Hid (Below w.heap.size w wr) ∧ Hid (wr.ownsRow w.heap.size 2 1 dv (Pg.mkL (No.uo nu st fl n) a).length (ugV (Pg.mkL (No.uo nu st fl n) a)))) (fun _ iv _ _ _ => 100 - (intOf iv).toNat)
  case atStart => exact ⟨1, Nat.le_refl _, by omega, rfl, HB, by rw [HM1.out]; exact HO⟩
  case round =>
    obtain ⟨a, ha1, ha, rfl, hB, hO⟩ := hrel
    clear HB HO
    by_cases hlt : a < 100
    · have hltz : (a : Int) < 100 := by omega
      go_wp2_with fail
      go_loopw [5, 6] (fun bv iv wr2 => ∃ (k : Nat), k ≤ n ∧ iv = .int .i64 k ∧ bv = .int .i64 (No.opn nu st fl k (a : Int)) ∧ wr2 = wr) (fun _ iv _ => n - (intOf iv).toNat)
      case atStart => exact ⟨0, Nat.zero_le _, rfl, rfl, rfl⟩
      case round =>
        obtain ⟨k, hk, rfl, rfl, rfl⟩ := hrel
        by_cases hlt2 : k < n
        · have hltz2 : (k : Int) < (n : Int) := by omega
          obtain ⟨b, e, c0, c1, c3⟩ := HC.out _ hB.out k hlt2
          subst e
          cases hf : fl k with
          | true =>
            have HQ := Lib.hid (No.opn_flush (nu := nu) (st := st) (n := (a : Int)) hf)
            rw [hf] at c3
            clear hf
            go_wp2_with fail
            go_roundw
            case rel => exact ⟨k + 1, by omega, by go_num, by rw [HQ.out], by trivial⟩
            case measure => simp [intOf]; omega
          | false =>
            rw [hf] at c3
            by_cases q2 : nu k = (a : Int)
            · have HQ := Lib.hid (No.opn_yes (st := st) hf q2)
              have hqq : (nu k == (a : Int)) = true := by simp [q2]
              clear q2 hf
              go_wp2_with fail
              go_roundw
              case rel => exact ⟨k + 1, by omega, by go_num, by rw [HQ.out], by trivial⟩
              case measure => simp [intOf]; omega
            · have HQ := Lib.hid (No.opn_other (st := st) (fl := fl) q2)
              have hqq : (nu k == (a : Int)) = false := by simp [q2]
              clear q2 hf
              go_wp2_with fail
              go_roundw
              case rel => exact ⟨k + 1, by omega, by go_num, by rw [HQ.out], by trivial⟩
              case measure => simp [intOf]; omega
        · obtain rfl : k = n := by omega
          by_cases q : No.opn nu st fl k (a : Int) = 0
          · have HSTEP := Lib.hid (Pg.mkL_no (show No.uo nu st fl k a = false by simp [No.uo, q]))
            have hqq : (No.opn nu st fl k (a : Int) != 0) = false := by simp [q]
            clear q
            go_wp2_with fail
            go_roundw
            case rel => exact ⟨a + 1, by omega, by omega, by go_num, hB, by rw [HSTEP.out]; exact hO⟩
            case measure => simp [intOf]; omega
          · have HSTEP := Lib.hid (Pg.mkL_yes (show No.uo nu st fl k a = true by simp [No.uo, q]; omega))
            have hqq : (No.opn nu st fl k (a : Int) != 0) = true := by simp [q]
            have hll := Pg.mkL_len (No.uo nu st fl k) a
            have hsz := hB.out.size
            obtain ⟨hi1, hy0, hy1, hy2⟩ := HPI.out
            clear q
            go_wp2_with (at_builtin; refine wpList_append_own _ rfl _ _ 29 rfl w.heap.size 2 i1 _ 1 8 Try.underlying29 hi1 hy0 hy1 hy2 rfl (by decide) _ _ _ rfl (hO.out.alloc _) ⟨wr.heap.size, 0, none⟩ 1 1 [.int .i64 (a : Nat)] rfl rfl ?d1 ?d2 ?d3 ?d4 ?d5 ?_)
            case d1 =>
              intro q x hq
              match q, hq with
              | 0, hq =>
                simp at hq
                subst hq
                exact (rowN_alloc wr [.int .i64 (a : Nat)] 2).cell (i := 0) (by simp)
            case d2 =>
              intro x hx
              simp at hx
              subst hx
              rfl
            case d3 => unfold maxLen; omega
            case d4 => omega
            case d5 => simp; omega
            intro v5 W5 hown hgrow hnil
            have HB5 : Hid (Below w.heap.size w W5) := (hB.out.alloc hB.out.size _).grown hgrow (by simp; omega) (fun k e => (hO.out.lt k e).1)
            have HO5 : Hid (W5.ownsRow w.heap.size 2 1 v5 (Pg.mkL (No.uo nu st fl k) (a + 1)).length (ugV (Pg.mkL (No.uo nu st fl k) (a + 1)))) := by
              show World.ownsRow _ _ _ _ _ _ _
              rw [HSTEP.out, List.length_append, ugV_app]
              exact hown
            clear hown hgrow hnil hO hB hi1 hy0 hy1 hy2
            go_wp2_with fail
            go_roundw
            case rel => exact ⟨a + 1, by omega, by omega, by go_num, HB5, HO5⟩
            case measure => simp [intOf]; omega
    · obtain rfl : a = 100 := by omega
      go_wp2_with fail
      go_ret
      exact ⟨by rw [HE.out]; exact NlEnd.of (Nat.le_refl _) hO.out, hB.out⟩
end Go.Proofs.Ytjfeipgeppegcaa
