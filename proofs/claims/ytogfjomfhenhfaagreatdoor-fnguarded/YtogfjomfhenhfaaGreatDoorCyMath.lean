/-
  Cycles of a program: what it keeps, how its blocks come to their truths: mathematics.
-/
import Derived.Test.YtogfjomfhenhfaaGreatDoorPgIm
namespace Go.Proofs.YtogfjomfhenhfaaGreatDoor
open Go.RowKit Go.Deep

namespace Cy
/-- What a program keeps between two cycles: truths, counts, whether it has fallen back. -/
structure Lg where
  n : Nat
  T : Nat → Int
  m : Nat
  C : Nat → Int
  fl : Bool
def z0 : Lg := ⟨0, fun _ => 0, 0, fun _ => 0, false⟩
def Bits (n : Nat) (f : Nat → Int) : Prop := ∀ i, i < n → 0 ≤ f i ∧ f i ≤ 1
def Cnts (n : Nat) (f : Nat → Int) : Prop := ∀ i, i < n → 0 ≤ f i ∧ f i ≤ 101
structure Kept (s : Lg) : Prop where
  n : s.n ≤ 100
  m : s.m = s.n
  t : Bits s.n s.T
  c : Cnts s.m s.C
structure Of (p : Pg.Prog) (s : Lg) : Prop where
  r : Pg.Right p
  k : Kept s
  n : s.n = p.bn
  d : ∀ i, i < p.bn → (p.B i).kind ≠ 7 → s.C i = 0
def upd (f : Nat → Int) (i : Nat) (z : Int) (j : Nat) : Int := if j = i then z else f j
theorem upd_at (f : Nat → Int) (i : Nat) (z : Int) : upd f i z i = z := by simp [upd]
theorem upd_ne {f : Nat → Int} {i j : Nat} {z : Int} (h : j ≠ i) : upd f i z j = f j := by simp [upd, h]
/-- The count and the truth that a block comes to; x is the next in. -/
def ct (b : Pg.Bk) (i : Nat) (C0 T : Nat → Int) : Int := if b.kind = 7 ∧ T b.a.toNat = 1 then min 101 (C0 i + 1) else 0
def vl (b : Pg.Bk) (i : Nat) (T0 C0 T : Nat → Int) (x : Int) : Int :=
  if b.kind = 1 then x
  else if b.kind = 2 then min (T b.a.toNat) (T b.b.toNat)
  else if b.kind = 3 then max (T b.a.toNat) (T b.b.toNat)
  else if b.kind = 4 then 1 - T b.a.toNat
  else if b.kind = 5 then T0 b.a.toNat
  else if b.kind = 6 then min (1 - T b.b.toNat) (max (T b.a.toNat) (T0 i))
  else if b.b < ct b i C0 T then 1 else 0
structure St where
  T : Nat → Int
  C : Nat → Int
def stp (p : Pg.Prog) (s : Lg) (I : Nat → Int) (i : Nat) (t : St) : St :=
  ⟨upd t.T i (vl (p.B i) i s.T s.C t.T (I (Pg.insTo p.B i))), upd t.C i (ct (p.B i) i s.C t.T)⟩
/-- Truths and counts behind so many blocks. -/
def run (p : Pg.Prog) (s : Lg) (I : Nat → Int) : Nat → St
  | 0 => ⟨fun _ => 0, fun _ => 0⟩
  | i + 1 => stp p s I i (run p s I i)
theorem insTo_mono (B : Nat → Pg.Bk) {i j : Nat} (h : i ≤ j) : Pg.insTo B i ≤ Pg.insTo B j := by
  induction j with
  | zero => obtain rfl : i = 0 := by omega
            exact Nat.le_refl _
  | succ j ih =>
    by_cases e : i = j + 1
    · rw [e]; exact Nat.le_refl _
    · refine Nat.le_trans (ih (by omega)) ?_
      rw [Pg.insTo]; omega
theorem insTo_lt {B : Nat → Pg.Bk} {i n : Nat} (h : i < n) (hk : (B i).kind = 1) : Pg.insTo B i < Pg.insTo B n := by
  have h1 := insTo_mono B (show i + 1 ≤ n by omega)
  rw [Pg.insTo_yes hk] at h1
  omega
theorem run_T_ge (p : Pg.Prog) (s : Lg) (I : Nat → Int) (i : Nat) : ∀ j, i ≤ j → (run p s I i).T j = 0 := by
  induction i with
  | zero => intro j _; rfl
  | succ i ih =>
    intro j hj
    show upd _ i _ j = 0
    rw [upd_ne (by omega)]
    exact ih j (by omega)
theorem run_C_ge (p : Pg.Prog) (s : Lg) (I : Nat → Int) (i : Nat) : ∀ j, i ≤ j → (run p s I i).C j = 0 := by
  induction i with
  | zero => intro j _; rfl
  | succ i ih =>
    intro j hj
    show upd _ i _ j = 0
    rw [upd_ne (by omega)]
    exact ih j (by omega)
/-- What is there stays. -/
theorem run_keep (p : Pg.Prog) (s : Lg) (I : Nat → Int) {i j k : Nat} (hj : j < i) (hk : i ≤ k) : (run p s I k).T j = (run p s I i).T j ∧ (run p s I k).C j = (run p s I i).C j := by
  induction k with
  | zero => omega
  | succ k ih =>
    by_cases e : i = k + 1
    · subst e; exact ⟨rfl, rfl⟩
    · have := ih (by omega)
      refine ⟨?_, ?_⟩
      · show upd _ k _ j = _
        rw [upd_ne (by omega)]; exact this.1
      · show upd _ k _ j = _
        rw [upd_ne (by omega)]; exact this.2
theorem ct_bd {b : Pg.Bk} {i : Nat} {C0 T : Nat → Int} (h : 0 ≤ C0 i) : 0 ≤ ct b i C0 T ∧ ct b i C0 T ≤ 101 := by
  unfold ct
  split <;> omega
theorem ct_no {b : Pg.Bk} {i : Nat} {C0 T : Nat → Int} (h : b.kind ≠ 7) : ct b i C0 T = 0 := by
  unfold ct
  rw [if_neg (fun q => h q.1)]
theorem ahead_lt {z : Int} {i : Nat} (h : Pg.Ahead z i) : z.toNat < i ∧ ((z.toNat : Nat) : Int) = z := by unfold Pg.Ahead at h; omega
theorem vl_bit {b : Pg.Bk} {i n : Nat} {T0 C0 T : Nat → Int} {x : Int} (hp : Pg.PartsOk b i n) (hi : i < n) (h0 : Bits n T0) (h1 : Bits i T) (hx : b.kind = 1 → 0 ≤ x ∧ x ≤ 1) : 0 ≤ vl b i T0 C0 T x ∧ vl b i T0 C0 T x ≤ 1 := by
  unfold vl
  rcases hp with ⟨k, _⟩ | ⟨k, ha, hb⟩ | ⟨k, ha, _⟩ | ⟨k, ha, _⟩ | ⟨k, ha, _⟩
  · rw [if_pos k]; exact hx k
  · have a1 := h1 _ (ahead_lt ha).1
    have b1 := h1 _ (ahead_lt hb).1
    have c1 := h0 _ hi
    rcases k with k | k | k <;> rw [k] <;> simp <;> omega
  · have a1 := h1 _ (ahead_lt ha).1
    rw [k]; simp; omega
  · have a1 := h0 _ (ahead_lt ha).1
    rw [k]; simp; omega
  · rw [k]; simp
    split <;> omega
theorem run_bits {p : Pg.Prog} {s : Lg} {I : Nat → Int} (h : Of p s) (hI : Bits (Pg.insTo p.B p.bn) I) {i : Nat} (hi : i ≤ p.bn) : Bits p.bn (run p s I i).T ∧ Cnts p.bn (run p s I i).C := by
  induction i with
  | zero => exact ⟨fun j _ => ⟨Int.le_refl 0, (by decide : (0:Int) ≤ 1)⟩, fun j _ => ⟨Int.le_refl 0, (by decide : (0:Int) ≤ 101)⟩⟩
  | succ i ih =>
    have ih := ih (by omega)
    constructor
    · intro j hj
      show 0 ≤ upd _ i _ j ∧ upd _ i _ j ≤ 1
      by_cases e : j = i
      · subst e
        rw [upd_at]
        exact vl_bit (h.r.b j hj).2.2 hj (by rw [← h.n]; exact h.k.t) (fun q hq => ih.1 q (by omega)) (fun k => hI _ (insTo_lt hj k))
      · rw [upd_ne e]; exact ih.1 j hj
    · intro j hj
      show 0 ≤ upd _ i _ j ∧ upd _ i _ j ≤ 101
      by_cases e : j = i
      · subst e
        rw [upd_at]
        exact ct_bd (h.k.c _ (by rw [h.k.m, h.n]; omega)).1
      · rw [upd_ne e]; exact ih.2 j hj
/-- One of the first nevers is broken. -/
def Broke (p : Pg.Prog) (T : Nat → Int) (i : Nat) : Prop := ∃ k, k < i ∧ T (p.N (k * 2)).toNat = 1 ∧ T (p.N (k * 2 + 1)).toNat = 1
theorem broke0 (p : Pg.Prog) (T : Nat → Int) : ¬ Broke p T 0 := fun ⟨_, h, _⟩ => by omega
theorem broke_yes {p : Pg.Prog} {T : Nat → Int} {i : Nat} (h1 : T (p.N (i * 2)).toNat = 1) (h2 : T (p.N (i * 2 + 1)).toNat = 1) : Broke p T (i + 1) := ⟨i, by omega, h1, h2⟩
theorem broke_no {p : Pg.Prog} {T : Nat → Int} {i : Nat} (h : ¬ (T (p.N (i * 2)).toNat = 1 ∧ T (p.N (i * 2 + 1)).toNat = 1)) : Broke p T (i + 1) ↔ Broke p T i := by
  constructor
  · rintro ⟨k, hk, h1, h2⟩
    by_cases e : k = i
    · subst e; exact absurd ⟨h1, h2⟩ h
    · exact ⟨k, by omega, h1, h2⟩
  · rintro ⟨k, hk, h1, h2⟩; exact ⟨k, by omega, h1, h2⟩
theorem broke_step {p : Pg.Prog} {T : Nat → Int} {i j : Nat} (h : i ≤ j) (hb : Broke p T i) : Broke p T j := by
  obtain ⟨k, hk, h1, h2⟩ := hb
  exact ⟨k, by omega, h1, h2⟩
/-- What is kept behind the cycle, and the outs. -/
noncomputable def fell (p : Pg.Prog) (s : Lg) (I : Nat → Int) : Bool := s.fl || dB (Broke p (run p s I p.bn).T p.nn)
noncomputable def next (p : Pg.Prog) (s : Lg) (I : Nat → Int) : Lg := ⟨p.bn, (run p s I p.bn).T, p.bn, (run p s I p.bn).C, fell p s I⟩
noncomputable def out (p : Pg.Prog) (s : Lg) (I : Nat → Int) (j : Nat) : Int := if fell p s I = true then 0 else (run p s I p.bn).T (p.O j).toNat
/-- Nothing is refused. -/
def Fit (p : Pg.Prog) (s : Lg) (n : Nat) (I : Nat → Int) : Prop := Of p s ∧ (n : Int) = Pg.ins p ∧ Bits n I
noncomputable def code (p : Pg.Prog) (s : Lg) (n : Nat) (I : Nat → Int) : Int := if 400 < n then 2 else @ite Int (Fit p s n I) (Classical.propDecidable _) 0 1
theorem code_big {p : Pg.Prog} {s : Lg} {n : Nat} {I : Nat → Int} (h : 400 < n) : code p s n I = 2 := by unfold code; rw [if_pos h]
theorem code_ok {p : Pg.Prog} {s : Lg} {n : Nat} {I : Nat → Int} (h : ¬ 400 < n) (hf : Fit p s n I) : code p s n I = 0 := by unfold code; rw [if_neg h, if_pos hf]
theorem code_bad {p : Pg.Prog} {s : Lg} {n : Nat} {I : Nat → Int} (h : ¬ 400 < n) (hf : ¬ Fit p s n I) : code p s n I = 1 := by unfold code; rw [if_neg h, if_neg hf]
/-- The answer: what is kept, the outs, the code. -/
structure Ans where
  s : Lg
  n : Nat
  O : Nat → Int
  cd : Int
def no (cd : Int) : Ans := ⟨z0, 0, fun _ => 0, cd⟩
noncomputable def ans (p : Pg.Prog) (s : Lg) (n : Nat) (I : Nat → Int) : Ans := if code p s n I = 0 then ⟨next p s I, p.on, out p s I, 0⟩ else no (code p s n I)
theorem ans_big {p : Pg.Prog} {s : Lg} {n : Nat} {I : Nat → Int} (h : 400 < n) : ans p s n I = no 2 := by unfold ans; rw [code_big h]; rfl
theorem ans_bad {p : Pg.Prog} {s : Lg} {n : Nat} {I : Nat → Int} (h : ¬ 400 < n) (hf : ¬ Fit p s n I) : ans p s n I = no 1 := by unfold ans; rw [code_bad h hf]; rfl
theorem ans_ok {p : Pg.Prog} {s : Lg} {n : Nat} {I : Nat → Int} (h : ¬ 400 < n) (hf : Fit p s n I) : ans p s n I = ⟨next p s I, p.on, out p s I, 0⟩ := by unfold ans; rw [code_ok h hf]; rfl
theorem Fit.ins {p : Pg.Prog} {s : Lg} {n : Nat} {I : Nat → Int} (h : Fit p s n I) : n = Pg.insTo p.B p.bn := by
  have := h.2.1
  rw [Pg.ins_yes h.1.r] at this
  omega
theorem Fit.bits {p : Pg.Prog} {s : Lg} {n : Nat} {I : Nat → Int} (h : Fit p s n I) : Bits (Pg.insTo p.B p.bn) I := by rw [← h.ins]; exact h.2.2
/-- The start. -/
noncomputable def start (p : Pg.Prog) : Lg := @ite Lg (Pg.Right p) (Classical.propDecidable _) ⟨p.bn, fun _ => 0, p.bn, fun _ => 0, false⟩ z0
theorem start_yes {p : Pg.Prog} (h : Pg.Right p) : start p = ⟨p.bn, fun _ => 0, p.bn, fun _ => 0, false⟩ := by unfold start; rw [if_pos h]
theorem start_no {p : Pg.Prog} (h : ¬ Pg.Right p) : start p = z0 := by unfold start; rw [if_neg h]
theorem start_of {p : Pg.Prog} (h : Pg.Right p) : Of p (start p) := by
  rw [start_yes h]
  exact ⟨h, ⟨h.n, rfl, fun _ _ => ⟨Int.le_refl 0, (by decide : (0:Int) ≤ 1)⟩, fun _ _ => ⟨Int.le_refl 0, (by decide : (0:Int) ≤ 101)⟩⟩, rfl, fun _ _ _ => rfl⟩
theorem run_C_no {p : Pg.Prog} {s : Lg} {I : Nat → Int} (i : Nat) : ∀ j, (p.B j).kind ≠ 7 → (run p s I i).C j = 0 := by
  induction i with
  | zero => intro j _; rfl
  | succ i ih =>
    intro j hj
    show upd _ i _ j = 0
    by_cases e : j = i
    · subst e; rw [upd_at]; exact ct_no hj
    · rw [upd_ne e]; exact ih j hj
theorem next_of {p : Pg.Prog} {s : Lg} {n : Nat} {I : Nat → Int} (h : Fit p s n I) : Of p (next p s I) := by
  have hb := run_bits h.1 h.bits (Nat.le_refl _)
  exact ⟨h.1.r, ⟨h.1.r.n, rfl, hb.1, hb.2⟩, rfl, fun i _ hk => run_C_no _ i hk⟩
end Cy
end Go.Proofs.YtogfjomfhenhfaaGreatDoor
