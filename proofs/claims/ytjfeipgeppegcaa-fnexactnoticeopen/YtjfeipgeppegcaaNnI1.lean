/-
  The program's test of notices, and what is not over.
-/
import Derived.Test.YtjfeipgeppegcaaNnMem
import Derived.Test.YtjfeipgeppegcaaNoI1
import Derived.Test.YtjfeipgeppegcaaNoAr
import Derived.Test.YtjfeipgeppegcaaJbRs
import Derived.Test.YtjfeipgeppegcaaReg
namespace Go.Proofs.Ytjfeipgeppegcaa
open Go.RowKit Go.Deep

namespace No
/-- A notice is right. -/
def NtOk (x : Ne) : Prop := (x.fl = true → x.nu = 0 ∧ x.st = 0 ∧ x.an = 0) ∧ (x.fl = false → (1 ≤ x.nu ∧ x.nu ≤ 99) ∧ (0 ≤ x.st ∧ x.st ≤ 9) ∧ Pl.Rising x.an x.A 100)
def NtsOk (m : Nat) (bs : Nat → Ne) : Prop := ∀ i, i < m → NtOk (bs i)
/-- Notices that are right. -/
def NtRight (m : Nat) (bs : Nat → Ne) : Prop := m ≤ 400 ∧ NtsOk m bs
/-- The state of an incident behind so many notices. -/
def opn (nu st : Nat → Int) (fl : Nat → Bool) : Nat → Int → Int
  | 0, _ => 0
  | i + 1, n => if fl i = false ∧ nu i = n then st i else opn nu st fl i n
/-- It is not over. -/
def uo (nu st : Nat → Int) (fl : Nat → Bool) (i j : Nat) : Bool := decide (j ≠ 0 ∧ opn nu st fl i (j : Int) ≠ 0)
theorem uo_zero (nu st : Nat → Int) (fl : Nat → Bool) (j : Nat) : uo nu st fl 0 j = false := by simp [uo, opn]
theorem uo_flush {nu st : Nat → Int} {fl : Nat → Bool} {i : Nat} (h : fl i = true) : (fun j => if j = 0 then false else uo nu st fl i j) = uo nu st fl (i + 1) := by
  funext j
  by_cases e : j = 0
  · simp [uo, e]
  · simp [uo, opn, e, h]
theorem uo_put {nu st : Nat → Int} {fl : Nat → Bool} {i m : Nat} (h : fl i = false) (h1 : nu i = (m : Int)) (hm : 1 ≤ m) : (fun j => if j = m then (st i != 0) else uo nu st fl i j) = uo nu st fl (i + 1) := by
  funext j
  by_cases e : j = m
  · subst e
    have : j ≠ 0 := by omega
    simp only [uo, opn, h, h1, if_true, true_and, and_self, this, ne_eq, not_false_eq_true]
    by_cases q : st i = 0 <;> simp [q]
  · have e2 : ¬ ((m : Int) = (j : Int)) := by omega
    simp [uo, opn, h, h1, e, e2]
/-- The numbers of incidents that are not over. -/
noncomputable def opens (m : Nat) (bs : Nat → Ne) : List Nat := if dB (NtRight m bs) then Pg.mkL (uo (fun i => (bs i).nu) (fun i => (bs i).st) (fun i => (bs i).fl) m) 100 else []
theorem opens_yes {m : Nat} {bs : Nat → Ne} (h : NtRight m bs) : opens m bs = Pg.mkL (uo (fun i => (bs i).nu) (fun i => (bs i).st) (fun i => (bs i).fl) m) 100 := by unfold opens; rw [dB_tt h]; rfl
theorem opens_no {m : Nat} {bs : Nat → Ne} (h : ¬ NtRight m bs) : opens m bs = [] := by unfold opens; rw [dB_ff h]; rfl
theorem opens_len (m : Nat) (bs : Nat → Ne) : (opens m bs).length ≤ 100 := by
  by_cases h : NtRight m bs
  · rw [opens_yes h]; exact Pg.mkL_len _ _
  · rw [opens_no h]; simp
end No
theorem No.opens_own (m : Nat) (gs : Nat → Nat) (bs : Nat → Ne) : No.opens m (ownN gs bs) = No.opens m bs := rfl
set_option maxHeartbeats 400000 in
theorem nnspan_any (lo hi x : Int) (w : World) :
    Calls Try.prog 48 #[.agg #[.int .i64 lo, .int .i64 hi], .int .i64 x] w fun e w' => e = .returned (.bool (dB (lo ≤ x ∧ x ≤ hi))) ∧ Below w.heap.size w w' := by
  by_cases h1 : lo ≤ x
  · by_cases h2 : x ≤ hi
    · rw [dB_tt ⟨h1, h2⟩]
      go_enter Try.func48, Try.ntmps48
      go_wp2_with fail
      go_ret
      exact ⟨rfl, nbel_alloc _ _⟩
    · rw [dB_ff (show ¬ (lo ≤ x ∧ x ≤ hi) from fun h => h2 h.2)]
      go_enter Try.func48, Try.ntmps48
      go_wp2_with fail
      go_ret
      exact ⟨rfl, nbel_alloc _ _⟩
  · rw [dB_ff (show ¬ (lo ≤ x ∧ x ≤ hi) from fun h => h1 h.1)]
    go_enter Try.func48, Try.ntmps48
    go_wp2_with fail
    go_ret
    exact ⟨rfl, nbel_alloc _ _⟩
set_option maxRecDepth 100000 in
set_option maxHeartbeats 4000000 in
theorem noticeRight_any (x : Ne) (w : World) (h : NeL x w) (hs : x.an ≤ 1048576) :
    Calls Try.prog 44 #[nnV x] w fun e w' => e = .returned (.bool (dB (No.NtOk x))) ∧ Below w.heap.size w w' := by
  obtain ⟨nu, st, pa, an, ak, A, fl⟩ := x
  have hs2 : an ≤ 1048576 := hs
  clear hs
  obtain ⟨W, hW⟩ : ∃ W, W = w.alloc (.cells #[.int .i64 nu, .int .i64 st, .slice pa an ak, .bool fl] 58) := ⟨_, rfl⟩
  have HB : Hid (Below w.heap.size w W) := by show Below _ _ _; rw [hW]; exact nbel_alloc _ _
  have HR : Hid (W.rowIs w.heap.size 58 4 (rowN [.int .i64 nu, .int .i64 st, .slice pa an ak, .bool fl])) := by show W.rowIs _ _ _ _; rw [hW]; exact rowN_alloc w _ _
  have H : Hid (IsAt pa an A W) := IsAt.below h HB.out
  have HW := Lib.hid hW
  clear hW h
  cases fl with
  | true =>
    by_cases c1 : nu = 0
    · by_cases c2 : st = 0
      · by_cases c3 : an = 0
        · have HE := Lib.hid (dB_tt (show No.NtOk ⟨nu, st, pa, an, ak, A, true⟩ from ⟨fun _ => ⟨c1, c2, c3⟩, fun k => by cases k⟩))
          subst c1 c2 c3
          clear H HR
          go_enter Try.func44, Try.ntmps44
          go_wp2_with fail
          rw [← HW.out]
          go_ret
          exact ⟨by rw [HE.out]; rfl, HB.out⟩
        · have HE := Lib.hid (dB_ff (show ¬ No.NtOk ⟨nu, st, pa, an, ak, A, true⟩ from fun k => c3 (k.1 rfl).2.2))
          have d3 : ((an : Int) == 0) = false := by simp; omega
          subst c1 c2
          clear H HR c3
          go_enter Try.func44, Try.ntmps44
          go_wp2_with fail
          rw [← HW.out]
          go_ret
          exact ⟨by rw [HE.out]; try rfl, HB.out⟩
      · have HE := Lib.hid (dB_ff (show ¬ No.NtOk ⟨nu, st, pa, an, ak, A, true⟩ from fun k => c2 (k.1 rfl).2.1))
        have d2 : (st == 0) = false := by simp [c2]
        subst c1
        clear H HR c2
        go_enter Try.func44, Try.ntmps44
        go_wp2_with fail
        rw [← HW.out]
        go_ret
        exact ⟨by rw [HE.out]; try rfl, HB.out⟩
    · have HE := Lib.hid (dB_ff (show ¬ No.NtOk ⟨nu, st, pa, an, ak, A, true⟩ from fun k => c1 (k.1 rfl).1))
      have d1 : (nu == 0) = false := by simp [c1]
      clear H HR c1
      go_enter Try.func44, Try.ntmps44
      go_wp2_with fail
      rw [← HW.out]
      go_ret
      exact ⟨by rw [HE.out]; try rfl, HB.out⟩
  | false =>
    go_enter Try.func44, Try.ntmps44
    go_wp2_with fail
    rw [← HW.out]
    clear HW
    refine (nnspan_any 1 99 nu _).mono ?_
    rintro e w1 ⟨rfl, hb⟩
    replace HR := Lib.hid (nrow_below HR.out hb)
    replace H := Lib.hid (H.out.below hb)
    replace HB : Hid (Below w.heap.size w w1) := HB.out.trans (hb.mono HB.out.size)
    clear hb
    obtain ⟨⟨a0, a1, a2, a3⟩, _⟩ := rowN4 HR.out
    by_cases c1 : 1 ≤ nu ∧ nu ≤ 99
    case neg =>
      have HE := Lib.hid (dB_ff (show ¬ No.NtOk ⟨nu, st, pa, an, ak, A, false⟩ from fun k => c1 (k.2 rfl).1))
      rw [dB_ff c1]
      clear c1
      go_wp2_with fail
      go_ret
      exact ⟨by rw [HE.out]; rfl, HB.out⟩
    rw [dB_tt c1]
    have HC1 := Lib.hid c1
    clear c1
    go_wp2_with fail
    refine (nowithin_any st 9 _).mono ?_
    rintro e w2 ⟨rfl, rfl⟩
    by_cases c2 : 0 ≤ st ∧ st ≤ 9
    case neg =>
      have HE := Lib.hid (dB_ff (show ¬ No.NtOk ⟨nu, st, pa, an, ak, A, false⟩ from fun k => c2 (k.2 rfl).2.1))
      rw [dB_ff c2]
      clear c2
      go_wp2_with fail
      go_ret
      exact ⟨by rw [HE.out]; rfl, HB.out⟩
    rw [dB_tt c2]
    have HC2 := Lib.hid c2
    clear c2
    go_wp2_with fail
    refine (prising_any pa an ak A 100 _ H.out hs2 (by omega)).mono ?_
    rintro e w3 ⟨rfl, rfl⟩
    by_cases c3 : Pl.Rising an A 100
    · have HE := Lib.hid (dB_tt (show No.NtOk ⟨nu, st, pa, an, ak, A, false⟩ from ⟨fun k => by (cases k), fun _ => ⟨HC1.out, HC2.out, c3⟩⟩))
      rw [dB_tt c3]
      clear c3
      go_wp2_with fail
      go_ret
      exact ⟨by rw [HE.out]; rfl, HB.out⟩
    · have HE := Lib.hid (dB_ff (show ¬ No.NtOk ⟨nu, st, pa, an, ak, A, false⟩ from fun k => c3 (k.2 rfl).2.2))
      rw [dB_ff c3]
      clear c3
      go_wp2_with fail
      go_ret
      exact ⟨by rw [HE.out]; rfl, HB.out⟩
end Go.Proofs.Ytjfeipgeppegcaa
