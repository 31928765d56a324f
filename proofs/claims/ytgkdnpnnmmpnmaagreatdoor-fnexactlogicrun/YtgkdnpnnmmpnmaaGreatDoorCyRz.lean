/-
  Joined: BiLs, RnMath, RnMem, RnEx, RnSs, CyOpM, CyOp, CyRm, RnSt, CyFb, CyRi, CyRs, CyLi, CyLawR.
-/
import Derived.Test.YtgkdnpnnmmpnmaaGreatDoorNtMem
import Derived.Test.YtgkdnpnnmmpnmaaGreatDoorPlMath
import Derived.Test.YtgkdnpnnmmpnmaaGreatDoorMnMem
import Derived.Test.YtgkdnpnnmmpnmaaGreatDoorNtEx1
import Derived.Test.YtgkdnpnnmmpnmaaGreatDoorReg
import Derived.Test.YtgkdnpnnmmpnmaaGreatDoorCyMath
import Derived.Test.YtgkdnpnnmmpnmaaGreatDoorCyMem
import Derived.Test.YtgkdnpnnmmpnmaaGreatDoorCyEx1
import Derived.Laws.AppendOwn
import Derived.Laws.AppendOwnNone
import Derived.Laws.OwnMore
import Derived.Test.YtgkdnpnnmmpnmaaGreatDoorCyEx
import Derived.Test.YtgkdnpnnmmpnmaaGreatDoorPgMem
import Derived.Test.YtgkdnpnnmmpnmaaGreatDoorFaCy
import Derived.Test.YtgkdnpnnmmpnmaaGreatDoorCyI7
import Derived.Deep.DeepCutAuto
import Derived.Test.YtgkdnpnnmmpnmaaGreatDoorCyS2
import Derived.Test.YtgkdnpnnmmpnmaaGreatDoorPgIn
import Derived.Test.YtgkdnpnnmmpnmaaGreatDoorPgEx
namespace Go.Proofs.YtgkdnpnnmmpnmaaGreatDoor
open Go.RowKit Go.Deep

/-- A list that an answer is: its own memory, or none. -/
def LsOwn (T : TypeId) (s B N : Nat) (a : Option Addr) (c : Nat) (f : Nat → Int) (W : World) : Prop := (a = none ∧ N = 0 ∧ c = 0) ∨ ∃ g, a = some ⟨g, 0, none⟩ ∧ B ≤ g ∧ IsBlk T g (N * s) f W
theorem LsOwn.same {T : TypeId} {s B N c : Nat} {a : Option Addr} {f : Nat → Int} {W W' : World} (h : LsOwn T s B N a c f W) (hb : ∀ k, B ≤ k → k < W.heap.size → W'.heap[k]? = W.heap[k]?) : LsOwn T s B N a c f W' := by
  rcases h with h | ⟨g, e, h1, h2⟩
  · exact Or.inl h
  · exact Or.inr ⟨g, e, h1, h2.block (hb g h1 h2.lt)⟩
theorem LsOwn.below {T : TypeId} {s B N c : Nat} {a : Option Addr} {f : Nat → Int} {W W' : World} (h : LsOwn T s B N a c f W) (hb : Below W.heap.size W W') : LsOwn T s B N a c f W' := h.same (fun k _ hk => hb.block k hk)
theorem LsOwn.at_ {T : TypeId} {s B N c : Nat} {a : Option Addr} {f : Nat → Int} {W : World} (h : LsOwn T s B N a c f W) : IsAt a (N * s) f W := by
  rcases h with h | ⟨g, e, h1, h2⟩
  · exact Or.inl (by rw [h.2.1]; simp)
  · rw [e]; exact h2.at_
theorem LsOwn.low {T : TypeId} {s B B' N c : Nat} {a : Option Addr} {f : Nat → Int} {W : World} (h : LsOwn T s B N a c f W) (hb : B' ≤ B) : LsOwn T s B' N a c f W := by
  rcases h with h | ⟨g, e, h1, h2⟩
  · exact Or.inl h
  · exact Or.inr ⟨g, e, Nat.le_trans hb h1, h2⟩
theorem LsOwn.lt {T : TypeId} {s B N c : Nat} {a : Option Addr} {f : Nat → Int} {W : World} (h : LsOwn T s B N a c f W) {k : Nat} (e : a = some ⟨k, 0, none⟩) : B ≤ k ∧ k < W.heap.size := by
  rcases h with h | ⟨g, e', h1, h2⟩
  · rw [h.1] at e; cases e
  · rw [e'] at e; cases e; exact ⟨h1, h2.lt⟩
end Go.Proofs.YtgkdnpnnmmpnmaaGreatDoor
namespace Go.Proofs.YtgkdnpnnmmpnmaaGreatDoor
open Go.RowKit Go.Deep

namespace Rn
/-- Right assets: two numbers each. -/
def Right (n : Nat) (f : Nat → Int) : Prop := n ≤ 40 ∧ ∀ i, i < n → (1 ≤ f (i * 2) ∧ f (i * 2) ≤ 300) ∧ (0 ≤ f (i * 2 + 1) ∧ f (i * 2 + 1) ≤ 1000)
/-- A right budget. -/
def BudOk (z : Int) : Prop := 0 ≤ z ∧ z ≤ 300
def c (f : Nat → Int) (i : Nat) : Nat := (f (i * 2)).toNat
theorem Right.c {n : Nat} {f : Nat → Int} (h : Right n f) {i : Nat} (hi : i < n) : f (i * 2) = (c f i : Int) ∧ 1 ≤ Rn.c f i ∧ Rn.c f i ≤ 300 := by
  have := (h.2 i hi).1
  unfold Rn.c
  omega
/-- One cell of the table by the row behind it. -/
def step (f : Nat → Int) (i : Nat) (nx : Nat → Int) (b : Nat) : Int := if c f i ≤ b then (if nx b ≤ f (i * 2 + 1) + nx (b - c f i) then f (i * 2 + 1) + nx (b - c f i) else nx b) else nx b
/-- The table's rows, from behind. -/
def tk (f : Nat → Int) (n : Nat) : Nat → Nat → Int
  | 0 => fun _ => 0
  | k + 1 => step f (n - 1 - k) (tk f n k)
def T (f : Nat → Int) (n i : Nat) : Nat → Int := tk f n (n - i)
theorem T_end (f : Nat → Int) (n : Nat) : T f n n = fun _ => 0 := by unfold T; simp [tk]
theorem T_step (f : Nat → Int) {n i : Nat} (h : i < n) : T f n i = step f i (T f n (i + 1)) := by
  unfold T
  rw [show n - i = (n - (i + 1)) + 1 by omega]
  show step f (n - 1 - (n - (i + 1))) _ = _
  rw [show n - 1 - (n - (i + 1)) = i by omega]
theorem step_bd {f : Nat → Int} {i : Nat} {nx : Nat → Int} {M : Int} (h1 : 0 ≤ f (i * 2 + 1)) (h2 : f (i * 2 + 1) ≤ 1000) (hn : ∀ b, 0 ≤ nx b ∧ nx b ≤ M) (b : Nat) : 0 ≤ step f i nx b ∧ step f i nx b ≤ M + 1000 := by
  unfold step
  have a1 := hn b
  have a2 := hn (b - c f i)
  split
  · split <;> omega
  · omega
theorem tk_bd {f : Nat → Int} {n : Nat} (h : Right n f) : ∀ k, k ≤ n → ∀ b, 0 ≤ tk f n k b ∧ tk f n k b ≤ (k : Int) * 1000 := by
  intro k
  induction k with
  | zero => intro _ b; simp [tk]
  | succ k ih =>
    intro hk b
    have hr := (h.2 (n - 1 - k) (by omega)).2
    have := step_bd hr.1 hr.2 (ih (by omega)) b
    simp only [tk]
    have e : ((k + 1 : Nat) : Int) * 1000 = (k : Int) * 1000 + 1000 := by omega
    omega
theorem T_bd {f : Nat → Int} {n : Nat} (h : Right n f) (i b : Nat) : 0 ≤ T f n i b ∧ T f n i b ≤ 40000 := by
  have := tk_bd h (n - i) (by omega) b
  have h1 := h.1
  unfold T
  omega
/-- An asset is renewed with so much left. -/
def tak (f : Nat → Int) (n i b : Nat) : Bool := decide (c f i ≤ b) && decide (T f n (i + 1) b ≤ f (i * 2 + 1) + T f n (i + 1) (b - c f i))
theorem tak_iff {f : Nat → Int} {n i b : Nat} : tak f n i b = true ↔ c f i ≤ b ∧ T f n (i + 1) b ≤ f (i * 2 + 1) + T f n (i + 1) (b - c f i) := by unfold tak; simp
theorem T_tak {f : Nat → Int} {n i b : Nat} (h : i < n) : tak f n i b = true ↔ c f i ≤ b ∧ f (i * 2 + 1) + T f n (i + 1) (b - c f i) = T f n i b := by
  rw [tak_iff, T_step f h]
  unfold step
  constructor
  · intro ⟨h1, h2⟩
    rw [if_pos h1, if_pos h2]
    exact ⟨h1, rfl⟩
  · intro ⟨h1, h2⟩
    rw [if_pos h1] at h2
    refine ⟨h1, ?_⟩
    by_cases q : T f n (i + 1) b ≤ f (i * 2 + 1) + T f n (i + 1) (b - c f i)
    · exact q
    · rw [if_neg q] at h2; omega
/-- The picks among the first ones, and what is left. -/
def pl (f : Nat → Int) (n b : Nat) : Nat → List Nat × Nat
  | 0 => ([], b)
  | i + 1 => if tak f n i (pl f n b i).2 = true then ((pl f n b i).1 ++ [i], (pl f n b i).2 - c f i) else pl f n b i
theorem pl_yes {f : Nat → Int} {n b i : Nat} (h : tak f n i (pl f n b i).2 = true) : pl f n b (i + 1) = ((pl f n b i).1 ++ [i], (pl f n b i).2 - c f i) := by simp only [pl]; rw [if_pos h]
theorem pl_no {f : Nat → Int} {n b i : Nat} (h : tak f n i (pl f n b i).2 = false) : pl f n b (i + 1) = pl f n b i := by simp only [pl]; rw [if_neg (by rw [h]; simp)]
theorem pl_len (f : Nat → Int) (n b i : Nat) : (pl f n b i).1.length ≤ i := by
  induction i with
  | zero => simp [pl]
  | succ i ih =>
    simp only [pl]
    split
    · simp; omega
    · omega
theorem pl_left (f : Nat → Int) (n b i : Nat) : (pl f n b i).2 ≤ b := by
  induction i with
  | zero => simp [pl]
  | succ i ih =>
    simp only [pl]
    split
    · simp; omega
    · omega
/-- The picks. -/
def picks (f : Nat → Int) (n b : Nat) : List Nat := (pl f n b n).1
/-- A list as numbers. -/
def nf (l : List Nat) (j : Nat) : Int := ((l.getD j 0 : Nat) : Int)
/-- Sums of so many picks' numbers. -/
def sm (f : Nat → Int) (k : Nat) (p : Nat → Int) : Nat → Int
  | 0 => 0
  | i + 1 => sm f k p i + f ((p i).toNat * 2 + k)
theorem sm_congr {f : Nat → Int} {k : Nat} {p q : Nat → Int} {m : Nat} (h : ∀ i, i < m → p i = q i) : sm f k p m = sm f k q m := by
  induction m with
  | zero => rfl
  | succ m ih => simp only [sm]; rw [ih (fun i hi => h i (by omega)), h m (by omega)]
theorem sm_bd {f : Nat → Int} {k : Nat} {p : Nat → Int} {n m : Nat} {M : Int} (hf : ∀ i, i < n → 0 ≤ f (i * 2 + k) ∧ f (i * 2 + k) ≤ M) (hp : ∀ i, i < m → (p i).toNat < n) : 0 ≤ sm f k p m ∧ sm f k p m ≤ (m : Int) * M := by
  induction m with
  | zero => simp [sm]
  | succ m ih =>
    have h1 := ih (fun i hi => hp i (by omega))
    have h2 := hf _ (hp m (by omega))
    simp only [sm]
    have e : ((m + 1 : Nat) : Int) * M = (m : Int) * M + M := by rw [Int.natCast_add, Int.add_mul]; simp
    omega
/-- Rising picks. -/
theorem nf_old {l : List Nat} {x j : Nat} (h : j < l.length) : nf (l ++ [x]) j = nf l j := by
  unfold nf
  simp [List.getD_eq_getElem?_getD, List.getElem?_append_left h]
theorem nf_new {l : List Nat} {x : Nat} : nf (l ++ [x]) l.length = (x : Int) := by
  unfold nf
  simp
/-- What holds of the picks so far: they rise, are below, and cost what is gone. -/
theorem pl_inv {f : Nat → Int} {n b : Nat} (h : Right n f) : ∀ i, i ≤ n → Pl.Rising (pl f n b i).1.length (nf (pl f n b i).1) i ∧ sm f 0 (nf (pl f n b i).1) (pl f n b i).1.length = ((b - (pl f n b i).2 : Nat) : Int) ∧ sm f 1 (nf (pl f n b i).1) (pl f n b i).1.length + T f n i (pl f n b i).2 = T f n 0 b := by
  intro i
  induction i with
  | zero => intro _; refine ⟨fun j hj => ?_, ?_, ?_⟩ <;> simp [pl, sm] at *
  | succ i ih =>
    intro hi
    obtain ⟨h1, h2, h3⟩ := ih (by omega)
    have hl := pl_left f n b i
    cases ht : tak f n i (pl f n b i).2 with
    | false =>
      rw [pl_no ht]
      refine ⟨fun j hj => ⟨⟨(h1 j hj).1.1, by have := (h1 j hj).1.2; omega⟩, (h1 j hj).2⟩, h2, ?_⟩
      rw [← h3]
      have hne : ¬ (c f i ≤ (pl f n b i).2 ∧ T f n (i + 1) (pl f n b i).2 ≤ f (i * 2 + 1) + T f n (i + 1) ((pl f n b i).2 - c f i)) := fun q => by rw [tak_iff.2 q] at ht; cases ht
      rw [T_step f (show i < n by omega)]
      unfold step
      by_cases q : c f i ≤ (pl f n b i).2
      · rw [if_pos q, if_neg (fun r => hne ⟨q, r⟩)]
      · rw [if_neg q]
    | true =>
      rw [pl_yes ht]
      obtain ⟨hc, hc2⟩ := (T_tak (show i < n by omega)).1 ht
      have hcc := h.c (show i < n by omega)
      generalize (pl f n b i).1 = l at *
      generalize (pl f n b i).2 = left at *
      have e : (l ++ [i]).length = l.length + 1 := by simp
      simp only [e]
      refine ⟨fun j hj => ?_, ?_, ?_⟩
      · by_cases q : j < l.length
        · rw [nf_old q]
          refine ⟨⟨(h1 j q).1.1, by have := (h1 j q).1.2; omega⟩, fun hj0 => ?_⟩
          rw [nf_old (by omega)]
          exact (h1 j q).2 hj0
        · obtain rfl : j = l.length := by omega
          rw [nf_new]
          refine ⟨⟨by omega, by omega⟩, fun hj0 => ?_⟩
          rw [nf_old (by omega)]
          have := (h1 (l.length - 1) (by omega)).1.2
          omega
      · simp only [sm]
        rw [sm_congr (q := nf l) (fun j hj => nf_old hj), h2, nf_new]
        simp only [Int.toNat_natCast, Nat.add_zero]
        omega
      · simp only [sm]
        rw [sm_congr (q := nf l) (fun j hj => nf_old hj), nf_new]
        simp only [Int.toNat_natCast]
        rw [← h3, ← hc2]
        omega
theorem picks_rise {f : Nat → Int} {n b : Nat} (h : Right n f) : Pl.Rising (picks f n b).length (nf (picks f n b)) n := (pl_inv h n (Nat.le_refl _)).1
theorem picks_cost {f : Nat → Int} {n b : Nat} (h : Right n f) : sm f 0 (nf (picks f n b)) (picks f n b).length ≤ (b : Int) := by
  have := (pl_inv h (b := b) n (Nat.le_refl _)).2.1
  have h2 := pl_left f n b n
  unfold picks
  omega
theorem picks_worth {f : Nat → Int} {n b : Nat} (h : Right n f) : sm f 1 (nf (picks f n b)) (picks f n b).length = T f n 0 b := by
  have := (pl_inv h (b := b) n (Nat.le_refl _)).2.2
  rw [T_end] at this
  unfold picks
  simpa using this
theorem picks_len (f : Nat → Int) (n b : Nat) : (picks f n b).length ≤ n := pl_len f n b n
/-- The table is no less for more, and any picks from a place on are worth no more than it says. -/
theorem sm_split (f : Nat → Int) (k : Nat) (p : Nat → Int) (m : Nat) : sm f k p (m + 1) = f ((p 0).toNat * 2 + k) + sm f k (fun j => p (j + 1)) m := by
  induction m with
  | zero => simp [sm]
  | succ m ih => rw [show sm f k p (m + 1 + 1) = sm f k p (m + 1) + f ((p (m + 1)).toNat * 2 + k) from rfl, ih]; simp only [sm]; omega
theorem T_most {f : Nat → Int} {n : Nat} (h : Right n f) : ∀ k, k ≤ n → ∀ (m : Nat) (p : Nat → Int) (b : Nat), Pl.Rising m p n → (∀ j, j < m → ((n - k : Nat) : Int) ≤ p j) → sm f 0 p m ≤ (b : Int) → sm f 1 p m ≤ T f n (n - k) b := by
  intro k
  induction k with
  | zero =>
    intro _ m p b h1 h2 _
    have : m = 0 := by
      cases m with
      | zero => rfl
      | succ m =>
        have := h2 0 (by omega)
        have h3 := (h1 0 (by omega)).1.2
        omega
    subst this
    rw [show n - 0 = n by omega, T_end]
    simp [sm]
  | succ k ih =>
    intro hk m p b h1 h2 h3
    have hn : n - (k + 1) < n := by omega
    have e1 : n - (k + 1) + 1 = n - k := by omega
    have hup : ∀ j, j < m → ((n - (k + 1) : Nat) : Int) < p j ∨ j = 0 := by
      intro j hj
      by_cases q : j = 0
      · exact Or.inr q
      · have a1 := (h1 j hj).2 (by omega)
        have a2 := h2 (j - 1) (by omega)
        exact Or.inl (by omega)
    have hT : T f n (n - k) b ≤ T f n (n - (k + 1)) b := by
      rw [T_step f hn, e1]
      unfold step
      split
      · split <;> omega
      · omega
    have plain : (∀ j, j < m → ((n - k : Nat) : Int) ≤ p j) → sm f 1 p m ≤ T f n (n - (k + 1)) b := fun q => Int.le_trans (ih (by omega) m p b h1 q h3) hT
    cases m with
    | zero => exact plain (fun j hj => absurd hj (Nat.not_lt_zero _))
    | succ m =>
      by_cases q : p 0 = ((n - (k + 1) : Nat) : Int)
      · have hr : Pl.Rising m (fun j => p (j + 1)) n := fun j hj => by
          have a := h1 (j + 1) (by omega)
          refine ⟨a.1, fun hj0 => ?_⟩
          have := a.2 (by omega)
          show p (j - 1 + 1) < p (j + 1)
          rw [show j - 1 + 1 = j by omega]
          simpa using this
        have hcc := h.c hn
        rw [sm_split] at h3 ⊢
        rw [q] at h3 ⊢
        simp only [Int.toNat_natCast, Nat.add_zero] at h3 ⊢
        rw [hcc.1] at h3
        have nn : 0 ≤ sm f 0 (fun j => p (j + 1)) m := (sm_bd (M := 300) (n := n) (fun i hi => by have := (h.2 i hi).1; simp only [Nat.add_zero]; omega) (fun i hi => by have h9 : p (i + 1) < n := (hr i hi).1.2; have h8 : 0 ≤ p (i + 1) := (hr i hi).1.1; show (p (i + 1)).toNat < n; omega)).1
        have hcb : c f (n - (k + 1)) ≤ b := by omega
        have := ih (by omega) m (fun j => p (j + 1)) (b - c f (n - (k + 1))) hr (fun j hj => by
          rcases hup (j + 1) (by omega) with u | u
          · show _ ≤ p (j + 1); omega
          · omega) (by omega)
        rw [T_step f hn, e1]
        unfold step
        rw [if_pos hcb]
        split <;> omega
      · refine plain (fun j hj => ?_)
        have a0 := h2 0 (by omega)
        rcases hup j hj with u | u
        · omega
        · subst u; omega
theorem best {f : Nat → Int} {n m b : Nat} {p : Nat → Int} (h : Right n f) (hr : Pl.Rising m p n) (hc : sm f 0 p m ≤ (b : Int)) : sm f 1 p m ≤ T f n 0 b := by
  have := T_most h n (Nat.le_refl _) m p b hr (fun j hj => by have := (hr j hj).1.1; omega) hc
  rwa [show n - n = 0 by omega] at this
end Rn
end Go.Proofs.YtgkdnpnnmmpnmaaGreatDoor
namespace Go.Proofs.YtgkdnpnnmmpnmaaGreatDoor
open Go.RowKit Go.Deep

theorem rwrap {x : Int} (h1 : -9223372036854775808 ≤ x) (h2 : x ≤ 9223372036854775807) : IntKind.i64.wrap x = x := by simp [IntKind.wrap, IntKind.bits, IntKind.signed]; omega
theorem rhs (w : World) (g k : Nat) (h : g ≠ k) (i : Nat) (v : Value) : (w.setCell ⟨k, i, none⟩ v).heap[g]? = w.heap[g]? := Below.heap_setCell _ _ _ _ (by show g ≠ k; exact h)
/-- The value of what is told. -/
abbrev roV (cs wo cd : Int) (n : Nat) (a : Option Addr) (k : Nat) : Value := .agg #[.slice a n k, .int .i64 cs, .int .i64 wo, .int .i64 cd]
abbrev roL (cs wo cd : Int) (n : Nat) (a : Option Addr) (k : Nat) : List Value := [.slice a n k, .int .i64 cs, .int .i64 wo, .int .i64 cd]
end Go.Proofs.YtgkdnpnnmmpnmaaGreatDoor
namespace Go.Proofs.YtgkdnpnnmmpnmaaGreatDoor
open Go.RowKit Go.Deep

theorem rmarkLs {B N c : Nat} {a : Option Addr} {f : Nat → Int} (w : World) (h : LsOwn 2 1 B N a c f w) (hn : N ≤ 1048576) :
    Calls Tryz.prog 35 #[.slice a N c, .int .i64 1] w fun e w' => e = .returned (.int .i64 ((1 + N : Nat) : Int)) ∧ LsOwn 2 1 B N a c (mk1 1) w' ∧ (∀ k, k < w.heap.size → a ≠ some ⟨k, 0, none⟩ → w'.heap[k]? = w.heap[k]?) ∧ w'.os = w.os ∧ w'.tape = w.tape ∧ w'.output = w.output ∧ w.heap.size ≤ w'.heap.size := by
  rcases h with ⟨rfl, rfl, rfl⟩ | ⟨g, rfl, h1, h2⟩
  · refine (nmarkInt64S_nil 1 w).mono ?_
    rintro e w' ⟨rfl, rfl⟩
    exact ⟨rfl, Or.inl ⟨rfl, rfl, rfl⟩, fun _ _ _ => rfl, rfl, rfl, rfl, Nat.le_refl _⟩
  · refine (nmarkInt64S_any g N c 1 f w (by simpa using h2) hn (by omega)).mono ?_
    rintro e w' ⟨rfl, hm, ho⟩
    exact ⟨rfl, Or.inr ⟨g, rfl, h1, (by simpa using hm)⟩, fun k hk hne => ho.block k hk (fun e => hne (by rw [e])), ho.os, ho.tape, ho.output, ho.size⟩
theorem rheldLs {B N c : Nat} {a : Option Addr} (w : World) (h : LsOwn 2 1 B N a c (mk1 1) w) (hn : N ≤ 1048576) :
    Calls Tryz.prog 79 #[.slice a N c, .int .i64 1] w fun e w' => e = .returned (.int .i64 ((1 + N : Nat) : Int)) ∧ w' = w := by
  rcases h with ⟨rfl, rfl, rfl⟩ | ⟨g, rfl, h1, h2⟩
  · exact nheldInt64S_nil 1 w
  · exact nheldInt64S_any g N c 1 w (by simpa using h2) hn (by omega)
end Go.Proofs.YtgkdnpnnmmpnmaaGreatDoor
namespace Go.Proofs.YtgkdnpnnmmpnmaaGreatDoor
open Go.RowKit Go.Deep

/-- Blocks of a range alone may have changed. -/
structure OnlyR (lo hi : Nat) (w w' : World) : Prop where
  os : w'.os = w.os
  tape : w'.tape = w.tape
  output : w'.output = w.output
  size : w.heap.size ≤ w'.heap.size
  block : ∀ k, k < w.heap.size → ¬ (lo ≤ k ∧ k < hi) → w'.heap[k]? = w.heap[k]?
theorem OnlyR.refl (lo hi : Nat) (w : World) : OnlyR lo hi w w := ⟨rfl, rfl, rfl, Nat.le_refl _, fun _ _ _ => rfl⟩
theorem OnlyR.only {lo hi g : Nat} {w w' w2 : World} (h : OnlyR lo hi w w') (h2 : Only g w' w2) (hg : lo ≤ g ∧ g < hi) : OnlyR lo hi w w2 :=
  ⟨h2.os.trans h.os, h2.tape.trans h.tape, h2.output.trans h.output, Nat.le_trans h.size h2.size, fun k hk hn => (h2.block k (Nat.lt_of_lt_of_le hk h.size) (fun e => hn (by omega))).trans (h.block k hk hn)⟩
theorem OnlyR.below {B lo hi : Nat} {w w' : World} (h : OnlyR lo hi w w') (h1 : B ≤ lo) (h2 : B ≤ w.heap.size) : Below B w w' := ⟨h.os, h.tape, h.output, h.size, fun k hk => h.block k (by omega) (by omega)⟩
theorem isBlk_type {T : TypeId} {g N : Nat} {f : Nat → Int} {W : World} (h : IsBlk T g N f W) : ∃ cur, W.heap[g]? = some (.cells cur T (0, 0)) := by
  obtain ⟨m, F, _, ⟨cur, h1, _⟩, _⟩ := h
  exact ⟨cur, h1⟩
theorem typ_ne {g k : Nat} {t t' : TypeId} {W : World} (h1 : ∃ cur, W.heap[g]? = some (.cells cur t (0, 0))) (h2 : ∃ cur, W.heap[k]? = some (.cells cur t' (0, 0))) (hne : t ≠ t') : g ≠ k := by
  rintro rfl
  obtain ⟨c1, h1⟩ := h1
  obtain ⟨c2, h2⟩ := h2
  rw [h1] at h2
  injection h2 with h2
  injection h2 with _ h2
  exact hne h2
/-- One row of its own. -/
def RwO (B hi N : Nat) (a : Option Addr) (c : Nat) (f : Nat → Int) (W : World) : Prop := (a = none ∧ N = 0 ∧ c = 0) ∨ ∃ b, a = some ⟨b, 0, none⟩ ∧ (B ≤ b ∧ b < hi) ∧ IsBlk 2 b N f W
theorem RwO.same {B hi N c : Nat} {a : Option Addr} {f : Nat → Int} {W W' : World} (h : RwO B hi N a c f W) (hb : ∀ q, B ≤ q → q < hi → q < W.heap.size → W'.heap[q]? = W.heap[q]?) : RwO B hi N a c f W' := by
  rcases h with h | ⟨b, e, h1, h2⟩
  · exact Or.inl h
  · exact Or.inr ⟨b, e, h1, h2.block (hb b h1.1 h1.2 h2.lt)⟩
theorem RwO.at_ {B hi N c : Nat} {a : Option Addr} {f : Nat → Int} {W : World} (h : RwO B hi N a c f W) : IsAt a N f W := by
  rcases h with h | ⟨b, e, h1, h2⟩
  · exact Or.inl h.2.1
  · rw [e]; exact h2.at_
/-- A list of lists of its own. -/
def SsO (B hi n : Nat) (a : Option Addr) (k : Nat) (LN : Nat → Nat) (L : Nat → Nat → Int) (W : World) : Prop :=
  (a = none ∧ n = 0 ∧ k = 0) ∨ ∃ (g : Nat) (aj : Nat → Option Addr) (cj : Nat → Nat), a = some ⟨g, 0, none⟩ ∧ (B ≤ g ∧ g < hi) ∧ (∃ M F, n ≤ M ∧ W.rowIs g 24 M F ∧ ∀ j, j < n → F j = .slice (aj j) (LN j) (cj j)) ∧ (∀ j, j < n → RwO B hi (LN j) (aj j) (cj j) (L j) W) ∧ ∀ i j b, i < n → j < n → aj i = some b → aj j = some b → i = j
theorem SsO.same {B hi n k : Nat} {a : Option Addr} {LN : Nat → Nat} {L : Nat → Nat → Int} {W W' : World} (h : SsO B hi n a k LN L W) (hb : ∀ q, B ≤ q → q < hi → q < W.heap.size → W'.heap[q]? = W.heap[q]?) : SsO B hi n a k LN L W' := by
  rcases h with h | ⟨g, aj, cj, e, h1, ⟨M, F, f1, f2, f3⟩, h3, h4⟩
  · exact Or.inl h
  · exact Or.inr ⟨g, aj, cj, e, h1, ⟨M, F, f1, f2.of_block (hb g h1.1 h1.2 f2.lt), f3⟩, fun j hj => (h3 j hj).same hb, h4⟩
theorem SsO.below {B hi n k : Nat} {a : Option Addr} {LN : Nat → Nat} {L : Nat → Nat → Int} {W W' : World} (h : SsO B hi n a k LN L W) (hb : Below W.heap.size W W') : SsO B hi n a k LN L W' := h.same (fun q _ _ hl => hb.block q hl)
theorem SsO.at_ {B hi n k : Nat} {a : Option Addr} {LN : Nat → Nat} {L : Nat → Nat → Int} {W : World} (h : SsO B hi n a k LN L W) : LsAt a n LN L W := by
  rcases h with h | ⟨g, aj, cj, e, h1, ⟨M, F, f1, f2, f3⟩, h3, h4⟩
  · exact Or.inl h.2.1
  · exact Or.inr ⟨g, e, fun i hi => ⟨_, _, (f2.cell (by omega)).trans (by rw [f3 i hi]), (h3 i hi).at_⟩⟩
/-- Marks of such a list. -/
def mkS (LN : Nat → Nat) (j c : Nat) : Int := ((1 + Mn.tot LN j + c : Nat) : Int)
/-- What a round of the comparison reads. -/
def EqSS (w : World) (b1 b2 i : Nat) (a1 : Option Addr) (n1 c1 : Nat) (a2 : Option Addr) (c2 : Nat) (W : World) : Prop := W.cell? ⟨b1, i, none⟩ = some (.slice a1 n1 c1) ∧ W.cell? ⟨b2, i, none⟩ = some (.slice a2 n1 c2) ∧ Below w.heap.size w W
theorem EqSS.below {w : World} {b1 b2 i : Nat} {a1 : Option Addr} {n1 c1 : Nat} {a2 : Option Addr} {c2 : Nat} {W W' : World} (h : EqSS w b1 b2 i a1 n1 c1 a2 c2 W) (hb : Below W.heap.size W W') : EqSS w b1 b2 i a1 n1 c1 a2 c2 W' := by
  obtain ⟨q1, q2, h3⟩ := h
  exact ⟨(hb.cell (World.block_lt_of_cell? _ _ q1)).trans q1, (hb.cell (World.block_lt_of_cell? _ _ q2)).trans q2, h3.trans (hb.mono h3.size)⟩
set_option maxRecDepth 100000 in
set_option maxHeartbeats 2000000 in
theorem meqSS_same (a b : Option Addr) (n ca cb : Nat) (LN : Nat → Nat) (L : Nat → Nat → Int) (w : World) (h1 : LsAt a n LN L w) (h2 : LsAt b n LN L w) (hn : n ≤ 1048576) (hl : ∀ i, i < n → LN i ≤ 1048576) :
    Calls Tryz.prog 45 #[.slice a n ca, .slice b n cb] w fun e w' => e = .returned (.bool true) ∧ Below w.heap.size w w' := by
  have H1 := Lib.hid h1
  have H2 := Lib.hid h2
  have HL := Lib.hid hl
  clear h1 h2 hl
  go_enter Tryz.func45, Tryz.ntmps45
  go_wp2_with fail
  go_loopw [5] (fun iv wr => ∃ (i : Nat), i ≤ n ∧ iv = .int .i64 i ∧ Hid (Below w.heap.size w wr)) (fun iv _ => n - (intOf iv).toNat)
  case atStart => exact ⟨0, Nat.zero_le _, rfl, Below.refl _ _⟩
  case round =>
    obtain ⟨i, hi, rfl, hB⟩ := hrel
    by_cases hlt : i < n
    · have hltz : (i : Int) < (n : Int) := by omega
      obtain ⟨b1, rfl, a1, c1, k1, K1⟩ := (H1.out.below hB.out).one hlt
      obtain ⟨b2, rfl, a2, c2, k2, K2⟩ := (H2.out.below hB.out).one hlt
      have HK1 := Lib.hid K1
      have HK2 := Lib.hid K2
      have HE : Hid (EqSS w b1 b2 i a1 (LN i) c1 a2 c2 wr) := ⟨k1, k2, hB.out⟩
      clear k1 k2 hB K1 K2
      go_wp2_with fail
      obtain ⟨W0, hW0⟩ : ∃ W0, W0 = wr := ⟨_, rfl⟩
      refine wp_region_held_drew (S := fun V => EqSS w b1 b2 i a1 (LN i) c1 a2 c2 V ∧ Below wr.heap.size wr V) (by kernel_rfl) ⟨HE.out.below (Below.refl _ _).drew, (Below.refl _ _).drew⟩ (fun hHeld => ?_)
      clear HE hW0 W0
      refine take_do (i := 0) (v := (.slice (some ⟨b1, 0, none⟩) n ca)) rfl (by kernel_rfl) (by kernel_rfl) (by kernel_rfl) (fun _ _ _ h => h) (by rfl) ?_ (by assumption) ?_
      · intro w hSw
        obtain ⟨⟨c0, d0, _⟩, _⟩ := hSw
        go_simp
      simp only [Act.put, List.setIfInBounds_toArray, List.set_cons_zero, List.set_cons_succ]
      refine take_do (i := 1) (v := (.int .i64 i)) rfl (by kernel_rfl) (by kernel_rfl) (by kernel_rfl) (fun _ _ _ h => h) (by rfl) ?_ (by assumption) ?_
      · intro w hSw
        obtain ⟨⟨c0, d0, _⟩, _⟩ := hSw
        go_simp
      simp only [Act.put, List.setIfInBounds_toArray, List.set_cons_zero, List.set_cons_succ]
      refine take_do (i := 2) (v := (.pointer (some ⟨b1, i, none⟩))) rfl (by kernel_rfl) (by kernel_rfl) (by kernel_rfl) (fun _ _ _ h => h) (by rfl) ?_ (by assumption) ?_
      · intro w hSw
        obtain ⟨⟨c0, d0, _⟩, _⟩ := hSw
        go_simp
      simp only [Act.put, List.setIfInBounds_toArray, List.set_cons_zero, List.set_cons_succ]
      refine take_do (i := 3) (v := (.slice a1 (LN i) c1)) rfl (by kernel_rfl) (by kernel_rfl) (by kernel_rfl) (fun _ _ _ h => h) (by rfl) ?_ (by assumption) ?_
      · intro w hSw
        obtain ⟨⟨c0, d0, _⟩, _⟩ := hSw
        go_simp
      simp only [Act.put, List.setIfInBounds_toArray, List.set_cons_zero, List.set_cons_succ]
      refine take_do (i := 4) (v := (.slice (some ⟨b2, 0, none⟩) n cb)) rfl (by kernel_rfl) (by kernel_rfl) (by kernel_rfl) (fun _ _ _ h => h) (by rfl) ?_ (by assumption) ?_
      · intro w hSw
        obtain ⟨⟨c0, d0, _⟩, _⟩ := hSw
        go_simp
      simp only [Act.put, List.setIfInBounds_toArray, List.set_cons_zero, List.set_cons_succ]
      refine take_do (i := 5) (v := (.int .i64 i)) rfl (by kernel_rfl) (by kernel_rfl) (by kernel_rfl) (fun _ _ _ h => h) (by rfl) ?_ (by assumption) ?_
      · intro w hSw
        obtain ⟨⟨c0, d0, _⟩, _⟩ := hSw
        go_simp
      simp only [Act.put, List.setIfInBounds_toArray, List.set_cons_zero, List.set_cons_succ]
      refine take_do (i := 6) (v := (.pointer (some ⟨b2, i, none⟩))) rfl (by kernel_rfl) (by kernel_rfl) (by kernel_rfl) (fun _ _ _ h => h) (by rfl) ?_ (by assumption) ?_
      · intro w hSw
        obtain ⟨⟨c0, d0, _⟩, _⟩ := hSw
        go_simp
      simp only [Act.put, List.setIfInBounds_toArray, List.set_cons_zero, List.set_cons_succ]
      refine take_do (i := 7) (v := (.slice a2 (LN i) c2)) rfl (by kernel_rfl) (by kernel_rfl) (by kernel_rfl) (fun _ _ _ h => h) (by rfl) ?_ (by assumption) ?_
      · intro w hSw
        obtain ⟨⟨c0, d0, _⟩, _⟩ := hSw
        go_simp
      simp only [Act.put, List.setIfInBounds_toArray, List.set_cons_zero, List.set_cons_succ]
      refine take_call (i := 8) rfl (by kernel_rfl) (fun K2 hK => ?_)
      go_simp
      refine (neqInt64S_same a1 a2 (LN i) c1 c2 (L i) _ (HK1.out.below hHeld.2) (HK2.out.below hHeld.2) (HL.out i hlt)).mono ?_
      rintro e w1 ⟨rfl, hb⟩
      go_wp2_with fail
      refine hK.out _ _ ⟨hHeld.1.below hb, hHeld.2.trans (hb.mono hHeld.2.size)⟩ (fun hHeld2 => ?_)
      clear hK hHeld hb
      have hHeld := hHeld2
      clear hHeld2
      refine take_do (i := 9) (v := (.bool false)) rfl (by kernel_rfl) (by kernel_rfl) (by kernel_rfl) (fun _ _ _ h => h) (by rfl) ?_ (by assumption) ?_
      · intro w hSw
        obtain ⟨⟨c0, d0, _⟩, _⟩ := hSw
        go_simp
      simp only [Act.put, List.setIfInBounds_toArray, List.set_cons_zero, List.set_cons_succ]
      refine wpAnyH_done (by kernel_rfl) ?_ _
      have HB1 := Lib.hid hHeld.1.2.2
      clear hHeld
      go_wp2_with fail
      go_roundw
      case rel => exact ⟨i + 1, by omega, by go_num, HB1⟩
      case measure => simp [intOf]; omega
    · obtain rfl : i = n := by omega
      go_wp2_with fail
      go_ret
      exact ⟨rfl, hB.out⟩
set_option maxRecDepth 100000 in
set_option maxHeartbeats 4000000 in
theorem markSs_any (B hi n : Nat) (a : Option Addr) (c : Nat) (LN : Nat → Nat) (L : Nat → Nat → Int) (w : World) (h : SsO B hi n a c LN L w) (hn : n ≤ 1048576) (ht : Mn.tot LN n ≤ 1048576) :
    Calls Tryz.prog 46 #[.slice a n c, .int .i64 1] w fun e w' => e = .returned (.int .i64 ((1 + Mn.tot LN n : Nat) : Int)) ∧ SsO B hi n a c LN (mkS LN) w' ∧ OnlyR B hi w w' := by
  rcases h with ⟨rfl, rfl, rfl⟩ | ⟨g, aj, cj, rfl, h1, hF, h3, h4⟩
  · go_enter Tryz.func46, Tryz.ntmps46
    go_wp2_with fail
    go_loopw [1, 5] (fun kv iv wr => kv = .int .i64 1 ∧ iv = .int .i64 0 ∧ wr = w) (fun _ _ _ => 0)
    case atStart => exact ⟨rfl, rfl, rfl⟩
    case round =>
      obtain ⟨rfl, rfl, rfl⟩ := hrel
      go_wp2_with fail
      go_ret
      exact ⟨rfl, Or.inl ⟨rfl, rfl, rfl⟩, OnlyR.refl _ _ _⟩
  · have HF := Lib.hid hF
    have H1 := Lib.hid h1
    have H3 : Hid (∀ j, j < n → ∃ f, RwO B hi (LN j) (aj j) (cj j) f w) := fun j hj => ⟨_, h3 j hj⟩
    have H4 := Lib.hid h4
    clear hF h1 h3 h4
    go_enter Tryz.func46, Tryz.ntmps46
    go_wp2_with fail
    go_loopw [1, 5] (fun kv iv wr => ∃ (i : Nat), i ≤ n ∧ kv = .int .i64 ((1 + Mn.tot LN i : Nat) : Int) ∧ iv = .int .i64 i ∧ Hid (∃ M F, n ≤ M ∧ wr.rowIs g 24 M F ∧ ∀ j, j < n → F j = .slice (aj j) (LN j) (cj j)) ∧ Hid (∀ j, j < n → ∃ f, RwO B hi (LN j) (aj j) (cj j) f wr) ∧ Hid (∀ j, j < i → RwO B hi (LN j) (aj j) (cj j) (mkS LN j) wr) ∧ Hid (OnlyR B hi w wr)) (fun _ iv _ => n - (intOf iv).toNat)
    case atStart => exact ⟨0, Nat.zero_le _, rfl, rfl, HF, H3, fun j hj => absurd hj (Nat.not_lt_zero _), OnlyR.refl _ _ _⟩
    case round =>
      obtain ⟨i, hi', rfl, rfl, hR, hI, hM, hO⟩ := hrel
      clear HF
      by_cases hlt : i < n
      · have hltz : (i : Int) < (n : Int) := by omega
        obtain ⟨N, F, f1, f2, f3⟩ := hR.out
        have c0 : wr.cell? ⟨g, i, none⟩ = some (.slice (aj i) (LN i) (cj i)) := (f2.cell (by omega)).trans (by rw [f3 i hlt])
        obtain ⟨K, hK⟩ : ∃ K : Nat, K = 1 + Mn.tot LN i := ⟨_, rfl⟩
        have HK := Lib.hid hK
        have hKb : K ≤ 4194304 := by have := Mn.tot_le LN n i hi'; omega
        have hLN : LN i ≤ 1048576 := by have := Mn.le_tot LN hlt; omega
        rw [← hK]
        clear hK
        obtain ⟨f, hf⟩ := hI.out i hlt
        have hgt : ∃ cur, wr.heap[g]? = some (.cells cur 24 (0, 0)) := by
          obtain ⟨cur, q, _⟩ := f2
          exact ⟨cur, q⟩
        have htot : Hid (Mn.tot LN (i + 1) = Mn.tot LN i + LN i) := rfl
        clear f1 f2 f3
        rcases hf with ⟨ha, hl, hc⟩ | ⟨b, ha, hbB, hblk⟩
        · rw [ha, hl, hc] at c0
          have HA : Hid (aj i = none ∧ LN i = 0 ∧ cj i = 0) := ⟨ha, hl, hc⟩
          clear ha hl hc hgt
          go_wp2_with fail
          refine (nmarkInt64S_nil K _).mono ?_
          rintro e w1 ⟨rfl, hw⟩
          subst w1
          have HM1 : Hid (∀ j, j < i + 1 → RwO B hi (LN j) (aj j) (cj j) (mkS LN j) wr) := fun j hj => by
            by_cases e : j = i
            · subst e; exact Or.inl HA.out
            · exact hM.out j (by omega)
          clear hM c0
          go_wp2_with fail
          go_roundw
          case rel =>
            refine ⟨i + 1, by omega, ?_, by go_num, hR, hI, HM1, hO⟩
            have q1 := HK.out
            have q2 := htot.out
            have q3 := HA.out.2.1
            congr 1; omega
          case measure => simp [intOf]; omega
        · rw [ha] at c0
          have HFI := Lib.hid hblk
          have HNE : Hid (g ≠ b) := typ_ne hgt (isBlk_type hblk) (by decide)
          have HA := Lib.hid ha
          have HBB := Lib.hid hbB
          clear hblk ha hbB hgt
          go_wp2_with fail
          refine (nmarkInt64S_any b (LN i) (cj i) K f _ HFI.out hLN (by omega)).mono ?_
          rintro e w1 ⟨rfl, hmk, ho⟩
          have HR1 : Hid (∃ M F, n ≤ M ∧ w1.rowIs g 24 M F ∧ ∀ j, j < n → F j = .slice (aj j) (LN j) (cj j)) := by
            obtain ⟨N, F, f1, f2, f3⟩ := hR.out
            exact ⟨N, F, f1, f2.of_block (ho.block _ f2.lt HNE.out), f3⟩
          have keep : ∀ j f, j < n → j ≠ i → RwO B hi (LN j) (aj j) (cj j) f wr → RwO B hi (LN j) (aj j) (cj j) f w1 := fun j f hj hne q => by
            rcases q with q | ⟨b', q1, q2, q3⟩
            · exact Or.inl q
            · refine Or.inr ⟨b', q1, q2, q3.block (ho.block _ q3.lt ?_)⟩
              rintro rfl
              exact hne (H4.out j i _ hj hlt q1 HA.out)
          have HI1 : Hid (∀ j, j < n → ∃ f, RwO B hi (LN j) (aj j) (cj j) f w1) := fun j hj => by
            by_cases e : j = i
            · subst e; exact ⟨_, Or.inr ⟨b, HA.out, HBB.out, hmk⟩⟩
            · obtain ⟨f, q⟩ := hI.out j hj
              exact ⟨f, keep j f hj e q⟩
          have HM1 : Hid (∀ j, j < i + 1 → RwO B hi (LN j) (aj j) (cj j) (mkS LN j) w1) := fun j hj => by
            by_cases e : j = i
            · subst e
              refine Or.inr ⟨b, HA.out, HBB.out, hmk.congr (fun t _ => ?_)⟩
              rw [HK.out]; rfl
            · exact keep j _ (by omega) e (hM.out j (by omega))
          have HO1 : Hid (OnlyR B hi w w1) := hO.out.only ho HBB.out
          clear hR hI hM hO hmk ho c0 keep HFI HNE
          go_wp2_with fail
          go_roundw
          case rel =>
            refine ⟨i + 1, by omega, ?_, by go_num, HR1, HI1, HM1, HO1⟩
            have q1 := HK.out
            have q2 := htot.out
            congr 1; omega
          case measure => simp [intOf]; omega
      · obtain rfl : i = n := by omega
        go_wp2_with fail
        go_ret
        exact ⟨rfl, Or.inr ⟨g, aj, cj, rfl, H1.out, hR.out, fun j hj => hM.out j hj, H4.out⟩, hO.out⟩
set_option maxRecDepth 100000 in
set_option maxHeartbeats 4000000 in
theorem heldSs_any (B hi n : Nat) (a : Option Addr) (c : Nat) (LN : Nat → Nat) (w : World) (h : SsO B hi n a c LN (mkS LN) w) (hn : n ≤ 1048576) (ht : Mn.tot LN n ≤ 1048576) :
    Calls Tryz.prog 47 #[.slice a n c, .int .i64 1] w fun e w' => e = .returned (.int .i64 ((1 + Mn.tot LN n : Nat) : Int)) ∧ w' = w := by
  rcases h with ⟨rfl, rfl, rfl⟩ | ⟨g, aj, cj, rfl, h1, hF, h3, h4⟩
  · go_enter Tryz.func47, Tryz.ntmps47
    go_wp2_with fail
    go_loopw [1, 5] (fun kv iv wr => kv = .int .i64 1 ∧ iv = .int .i64 0 ∧ wr = w) (fun _ _ _ => 0)
    case atStart => exact ⟨rfl, rfl, rfl⟩
    case round =>
      obtain ⟨rfl, rfl, rfl⟩ := hrel
      go_wp2_with fail
      go_ret
      exact ⟨rfl, rfl⟩
  · have HF := Lib.hid hF
    have H3 := Lib.hid h3
    clear hF h1 h3 h4
    go_enter Tryz.func47, Tryz.ntmps47
    go_wp2_with fail
    go_loopw [1, 5] (fun kv iv wr => ∃ (i : Nat), i ≤ n ∧ kv = .int .i64 ((1 + Mn.tot LN i : Nat) : Int) ∧ iv = .int .i64 i ∧ wr = w) (fun _ iv _ => n - (intOf iv).toNat)
    case atStart => exact ⟨0, Nat.zero_le _, rfl, rfl, rfl⟩
    case round =>
      obtain ⟨i, hi', rfl, rfl, rfl⟩ := hrel
      by_cases hlt : i < n
      · have hltz : (i : Int) < (n : Int) := by omega
        obtain ⟨N, F, f1, f2, f3⟩ := HF.out
        have c0 : wr.cell? ⟨g, i, none⟩ = some (.slice (aj i) (LN i) (cj i)) := (f2.cell (by omega)).trans (by rw [f3 i hlt])
        obtain ⟨K, hK⟩ : ∃ K : Nat, K = 1 + Mn.tot LN i := ⟨_, rfl⟩
        have HK := Lib.hid hK
        have hKb : K ≤ 4194304 := by have := Mn.tot_le LN n i hi'; omega
        have hLN : LN i ≤ 1048576 := by have := Mn.le_tot LN hlt; omega
        have htot : Hid (Mn.tot LN (i + 1) = Mn.tot LN i + LN i) := rfl
        have hKz : ¬ ((K + LN i : Nat) : Int) < 0 := by omega
        have hKz0 : ¬ (K : Int) < 0 := by omega
        have HR3 := Lib.hid (H3.out i hlt)
        rw [← hK]
        clear f1 f2 f3 hK
        rcases HR3.out with ⟨ha, hl, hc⟩ | ⟨b, ha, hbB, hblk⟩
        · rw [ha, hl, hc] at c0
          have HA : Hid (aj i = none ∧ LN i = 0 ∧ cj i = 0) := ⟨ha, hl, hc⟩
          clear ha hl hc
          go_wp2_with fail
          refine (nheldInt64S_nil K _).mono ?_
          rintro e w1 ⟨rfl, hw⟩
          subst w1
          clear c0
          go_wp2_with fail
          go_roundw
          case rel =>
            refine ⟨i + 1, by omega, ?_, by go_num, by trivial⟩
            have q1 := HK.out
            have q2 := htot.out
            have q3 := HA.out.2.1
            congr 1; omega
          case measure => simp [intOf]; omega
        · rw [ha] at c0
          have HMK : Hid (IsBlk 2 b (LN i) (mk1 K) wr) := hblk.congr (fun t _ => by rw [HK.out]; rfl)
          clear hblk ha hbB
          go_wp2_with fail
          refine (nheldInt64S_any b (LN i) (cj i) K _ HMK.out hLN (by omega)).mono ?_
          rintro e w1 ⟨rfl, hw⟩
          subst w1
          clear c0 HMK
          go_wp2_with fail
          go_roundw
          case rel =>
            refine ⟨i + 1, by omega, ?_, by go_num, by trivial⟩
            have q1 := HK.out
            have q2 := htot.out
            congr 1; omega
          case measure => simp [intOf]; omega
      · obtain rfl : i = n := by omega
        go_wp2_with fail
        go_ret
        exact ⟨rfl, rfl⟩
end Go.Proofs.YtgkdnpnnmmpnmaaGreatDoor
namespace Go.Proofs.YtgkdnpnnmmpnmaaGreatDoor
open Go.RowKit Go.Deep

namespace Pc
abbrev Op := Int × Int × Int
/-- What puts the truth of a block on the stack. -/
def opsB (i : Nat) (b : Pg.Bk) : List Op :=
  if b.kind = 1 then [(1, 0, 0)]
  else if b.kind = 2 then [(7, b.a, 0), (7, b.b, 0), (2, 0, 0)]
  else if b.kind = 3 then [(7, b.a, 0), (7, b.b, 0), (3, 0, 0)]
  else if b.kind = 4 then [(7, b.a, 0), (4, 0, 0)]
  else if b.kind = 5 then [(5, b.a, 0)]
  else if b.kind = 6 then [(5, (i : Int), 0), (7, b.a, 0), (3, 0, 0), (7, b.b, 0), (4, 0, 0), (2, 0, 0)]
  else [(7, b.a, 0), (8, (i : Int), b.b)]
def bks (p : Pg.Prog) : Nat → List Op
  | 0 => []
  | i + 1 => bks p i ++ opsB i (p.B i) ++ [(6, (i : Int), 0)]
def nvs (p : Pg.Prog) : Nat → List Op
  | 0 => bks p p.bn
  | j + 1 => nvs p j ++ [(7, p.N (j * 2), 0), (7, p.N (j * 2 + 1), 0), (2, 0, 0), (10, 0, 0)]
def ous (p : Pg.Prog) : Nat → List Op
  | 0 => nvs p p.nn
  | j + 1 => ous p j ++ [(7, p.O j, 0), (9, 0, 0)]
noncomputable def code (p : Pg.Prog) : List Op := @ite _ (Pg.Right p) (Classical.propDecidable _) (ous p p.on) []
theorem code_yes {p : Pg.Prog} (h : Pg.Right p) : code p = ous p p.on := by unfold code; rw [if_pos h]
theorem code_no {p : Pg.Prog} (h : ¬ Pg.Right p) : code p = [] := by unfold code; rw [if_neg h]
theorem opsB_len (i : Nat) (b : Pg.Bk) : (opsB i b).length ≤ 6 := by
  unfold opsB
  repeat' split
  all_goals simp
theorem bks_len (p : Pg.Prog) (i : Nat) : (bks p i).length ≤ i * 7 := by
  induction i with
  | zero => simp [bks]
  | succ i ih =>
    have := opsB_len i (p.B i)
    rw [bks, List.length_append, List.length_append, List.length_singleton]
    omega
theorem nvs_len (p : Pg.Prog) (j : Nat) : (nvs p j).length ≤ p.bn * 7 + j * 4 := by
  induction j with
  | zero => have := bks_len p p.bn; rw [nvs]; omega
  | succ j ih => rw [nvs, List.length_append]; simp; omega
theorem ous_len (p : Pg.Prog) (j : Nat) : (ous p j).length ≤ p.bn * 7 + p.nn * 4 + j * 2 := by
  induction j with
  | zero => have := nvs_len p p.nn; rw [ous]; omega
  | succ j ih => rw [ous, List.length_append]; simp; omega
theorem code_len (p : Pg.Prog) : (code p).length ≤ 1300 := by
  by_cases h : Pg.Right p
  · rw [code_yes h]
    have := ous_len p p.on
    have := h.n
    have := h.m
    have := h.on
    omega
  · rw [code_no h]; simp
/-- Its numbers, one by one. -/
def fl (l : List Op) (j : Nat) : Int := match j % 3 with
  | 0 => (l.getD (j / 3) (0, 0, 0)).1
  | 1 => (l.getD (j / 3) (0, 0, 0)).2.1
  | _ => (l.getD (j / 3) (0, 0, 0)).2.2
theorem fl0 (l : List Op) (i : Nat) : fl l (i * 3) = (l.getD i (0, 0, 0)).1 := by
  have h1 : (i * 3) % 3 = 0 := by omega
  have h2 : (i * 3) / 3 = i := by omega
  simp only [fl, h1, h2]
theorem fl1 (l : List Op) (i : Nat) : fl l (i * 3 + 1) = (l.getD i (0, 0, 0)).2.1 := by
  have h1 : (i * 3 + 1) % 3 = 1 := by omega
  have h2 : (i * 3 + 1) / 3 = i := by omega
  simp only [fl, h1, h2]
theorem fl2 (l : List Op) (i : Nat) : fl l (i * 3 + 2) = (l.getD i (0, 0, 0)).2.2 := by
  have h1 : (i * 3 + 2) % 3 = 2 := by omega
  have h2 : (i * 3 + 2) / 3 = i := by omega
  simp only [fl, h1, h2]
theorem fl_tail (x : Op) (l : List Op) (j : Nat) : fl (x :: l) (j + 3) = fl l j := by
  have h1 : (j + 3) % 3 = j % 3 := by omega
  have h2 : (j + 3) / 3 = j / 3 + 1 := by omega
  simp only [fl, h1, h2, List.getD_cons_succ]
end Pc
end Go.Proofs.YtgkdnpnnmmpnmaaGreatDoor
namespace Go.Proofs.YtgkdnpnnmmpnmaaGreatDoor
open Go.RowKit Go.Deep

/-- The cells of ops. -/
def opV (l : List Pc.Op) : List Value := l.flatMap fun x => [.int .i64 x.1, .int .i64 x.2.1, .int .i64 x.2.2]
theorem opV_app (l m : List Pc.Op) : opV (l ++ m) = opV l ++ opV m := by simp [opV]
theorem opV_len (l : List Pc.Op) : (opV l).length = l.length * 3 := by
  induction l with
  | nil => rfl
  | cons x l ih => simp only [opV, List.flatMap_cons, List.length_append, List.length_cons, List.length_nil] at ih ⊢; omega
theorem opV_get (l : List Pc.Op) (j : Nat) (h : j < l.length * 3) : (opV l)[j]? = some (.int .i64 (Pc.fl l j)) := by
  induction l generalizing j with
  | nil => simp at h
  | cons x l ih =>
    match j with
    | 0 => rfl
    | 1 => rfl
    | 2 => rfl
    | j + 3 =>
      rw [Pc.fl_tail, ← ih j (by simp at h; omega)]
      rfl
theorem opV_one (l : List Pc.Op) : ∀ u ∈ opV l, u.oneCell' = true := by
  intro u hu
  simp only [opV, List.mem_flatMap] at hu
  obtain ⟨x, _, hx⟩ := hu
  simp at hx
  rcases hx with rfl | rfl | rfl <;> rfl
theorem ops_new (w : World) (m : List Pc.Op) (T : TypeId) : ∀ j u, (opV m)[j]? = some u → (w.alloc (.cells ⟨opV m⟩ T)).cell? ((⟨w.heap.size, 0, none⟩ : Addr).add j) = some u := by
  intro j u h
  obtain ⟨hj, hu⟩ := List.getElem?_eq_some_iff.1 h
  have := (rowN_alloc w (opV m) T).cell (i := j) hj
  rw [Addr.add_lit, Nat.zero_add, this]
  unfold rowN
  rw [List.getD_eq_getElem?_getD, h]; rfl
/-- A list of ops that is owned. -/
theorem own_ops {T : TypeId} {B : Nat} {v : Value} {l : List Pc.Op} {w : World} (h : w.ownsRow B T 3 v l.length (opV l)) :
    ∃ a cap, v = .slice a l.length cap ∧ CyO T B (l.length * 3) a cap (Pc.fl l) w := by
  rcases h.2 with ⟨rfl, h2⟩ | ⟨g, cap, cur, rfl, e2, e3, e4, e5, e6, e7⟩
  · exact ⟨none, 0, by rw [h2], Or.inl ⟨rfl, by rw [h2], rfl⟩⟩
  · refine ⟨_, cap, rfl, Or.inr ⟨g, rfl, e2, cap * 3, fun i => cur[i]?.getD undef, by omega, ⟨cur, e3, e6, fun i hi => ?_⟩, fun j hj => ?_⟩⟩
    · show cur[i]? = some (cur[i]?.getD undef)
      rw [Array.getElem?_eq_getElem (by omega)]
      rfl
    · have h1 : (cur.toList.take (l.length * 3))[j]? = (opV l)[j]? := by rw [e7]
      rw [List.getElem?_take, if_pos hj, Array.getElem?_toList, opV_get l j hj] at h1
      show cur[j]?.getD undef = _
      rw [h1]; rfl
section
theorem opinfo : (Tryz.prog.info? 88).map (fun i => (i.zero, i.size, i.bytes)) = some (some (.agg #[.int .i64 0, .int .i64 0, .int .i64 0]), 3, 24) := by kernel_rfl
theorem run_append_ops (w : World) (ty : TypeId) (B : Nat) (v : Value) (l m : List Pc.Op) (hown : w.ownsRow B 88 3 v l.length (opV l)) (ad : Addr) (k : Nat) (hm : ∀ j u, (opV m)[j]? = some u → w.cell? (ad.add j) = some u)
    (h63 : l.length + m.length ≤ 1000000) (hB : B ≤ w.heap.size) :
    ∃ v' w', (Builtin.append_ #[30, 30] ty #[v, .slice (some ad) m.length k]).run Tryz.prog w = .ok v' w' ∧ w'.ownsRow B 88 3 v' (l ++ m).length (opV (l ++ m)) ∧ w.grownBy w' v.ownBlock := by
  obtain ⟨i0, hi, hz0, hz1, hz2⟩ := info_parts opinfo
  obtain ⟨v', w', hr, h1, h2, _⟩ := run_append_own (P := Tryz.prog) w B 30 ty 88 i0 _ 3 24 Tryz.underlying30 hi hz0 hz1 hz2 rfl (by decide) v l.length (opV l) hown ad m.length k (opV m) (opV_len m) hm (opV_one m) (by unfold maxLen; omega) (by omega) hB
  exact ⟨v', w', hr, by rw [List.length_append, opV_app]; exact h1, h2⟩
theorem wp_append_ops {o : Oper} {a : Act} {w : World} {K : Act → World → Prop} {Q : Exit → Act → World → Prop} (s x : Operand)
    (ho : o.op = .call { callee := .builtin .append, args := #[s, x], argTypes := #[30, 30] })
    (B : Nat) (v : Value) (l m : List Pc.Op) (hv : a.eval s = v) (hown : w.ownsRow B 88 3 v l.length (opV l)) (ad : Addr) (n k : Nat) (hx : a.eval x = .slice (some ad) n k) (hn : n = m.length) (hm : ∀ j u, (opV m)[j]? = some u → w.cell? (ad.add j) = some u)
    (h63 : l.length + m.length ≤ 1000000) (hB : B ≤ w.heap.size)
    (hK : ∀ v' w', w'.ownsRow B 88 3 v' (l ++ m).length (opV (l ++ m)) → w.grownBy w' v.ownBlock → K (a.put o.dst v') w') : o.wp Tryz.prog a w K Q := by
  subst hn
  obtain ⟨v', w', hr, h2, h3⟩ := run_append_ops w o.type B v l m hown ad k hm h63 hB
  unfold Oper.wp execOp
  simp only [ho, resolve, invoke, builtin, Sem.run_bind, Sem.run_pure, Result.andThen_ok, List.map_toArray, List.map_cons, List.map_nil, hv, hx, hr]
  exact hK v' w' h2 h3
theorem wpList_append_ops {ops : Array Oper} {rest : List Oper} {o : Oper} {a : Act} {w : World} {Q : Exit → Act → World → Prop} (hgd : o.guard = none) (s x : Operand)
    (ho : o.op = .call { callee := .builtin .append, args := #[s, x], argTypes := #[30, 30] })
    (B : Nat) (v : Value) (l m : List Pc.Op) (hv : a.eval s = v) (hown : w.ownsRow B 88 3 v l.length (opV l)) (ad : Addr) (n k : Nat) (hx : a.eval x = .slice (some ad) n k) (hn : n = m.length) (hm : ∀ j u, (opV m)[j]? = some u → w.cell? (ad.add j) = some u)
    (h63 : l.length + m.length ≤ 1000000) (hB : B ≤ w.heap.size)
    (hK : ∀ v' w', w'.ownsRow B 88 3 v' (l ++ m).length (opV (l ++ m)) → w.grownBy w' v.ownBlock → wpList Tryz.prog ops Q rest (a.put o.dst v') w') : wpList Tryz.prog ops Q (o :: rest) a w :=
  wpList_plain hgd fun _ hK2 => wp_append_ops s x ho B v l m hv hown ad n k hx hn hm h63 hB fun v' w' h2 h3 => hK2 _ _ (hK v' w' h2 h3)
theorem step_append_ops {ops : Array Oper} {o : Oper} {a : Act} {w : World} {K : Act → World → Prop} {Q : Exit → Act → World → Prop} {E : Prop} (hg : o.guard = none) (s x : Operand)
    (ho : o.op = .call { callee := .builtin .append, args := #[s, x], argTypes := #[30, 30] })
    (B : Nat) (v : Value) (l m : List Pc.Op) (hv : a.eval s = v) (hown : w.ownsRow B 88 3 v l.length (opV l)) (ad : Addr) (n k : Nat) (hx : a.eval x = .slice (some ad) n k) (hn : n = m.length) (hm : ∀ j u, (opV m)[j]? = some u → w.cell? (ad.add j) = some u)
    (h63 : l.length + m.length ≤ 1000000) (hB : B ≤ w.heap.size)
    (hK : ∀ v' w', w'.ownsRow B 88 3 v' (l ++ m).length (opV (l ++ m)) → w.grownBy w' v.ownBlock → K (a.put o.dst v') w') :
    if Region.wanted o (yielded ops a.tmps) = true then Oper.wp Tryz.prog o a w K Q else E := by
  have hw : Region.wanted o (yielded ops a.tmps) = true := by simp [Region.wanted, hg]
  rw [if_pos hw]
  exact wp_append_ops s x ho B v l m hv hown ad n k hx hn hm h63 hB hK
end
/-- Old memory stays behind such an append. -/
theorem cy_grown {B : Nat} {w W W' : World} {row : Option Nat} (h : Below B w W) (hs : B ≤ W.heap.size) (hg : W.grownBy W' row) (hr : ∀ k, row = some k → B ≤ k) : Below B w W' :=
  ⟨hg.os.trans h.os, hg.tape.trans h.tape, hg.output.trans h.output, Nat.le_trans h.size hg.size, fun k hk => (hg.block k (by omega) (fun e => by have := hr k e.symm; omega)).trans (h.block k hk)⟩
end Go.Proofs.YtgkdnpnnmmpnmaaGreatDoor
namespace Go.Proofs.YtgkdnpnnmmpnmaaGreatDoor
open Go.RowKit Go.Deep

namespace Cy
/-- What is kept ahead of each cycle of a run. -/
noncomputable def st (p : Pg.Prog) (LN : Nat → Nat) (L : Nat → Nat → Int) : Nat → Lg
  | 0 => start p
  | i + 1 => (ans p (st p LN L i) (LN i) (L i)).s
/-- No cycle of the run is refused. -/
def Runs (p : Pg.Prog) (LN : Nat → Nat) (L : Nat → Nat → Int) (n : Nat) : Prop := ∀ i, i < n → code p (st p LN L i) (LN i) (L i) = 0
/-- How many rows are told. -/
noncomputable def rn (p : Pg.Prog) (LN : Nat → Nat) (L : Nat → Nat → Int) (n : Nat) : Nat := if 100 < n then 0 else @ite Nat (Runs p LN L n) (Classical.propDecidable _) n 0
/-- A row. -/
noncomputable def ro (p : Pg.Prog) (LN : Nat → Nat) (L : Nat → Nat → Int) (j : Nat) : Nat → Int := (ans p (st p LN L j) (LN j) (L j)).O
section
variable {p : Pg.Prog} {LN : Nat → Nat} {L : Nat → Nat → Int} {n : Nat}
theorem rn_big (h : 100 < n) : rn p LN L n = 0 := by unfold rn; rw [if_pos h]
theorem rn_ok (h : ¬ 100 < n) (k : Runs p LN L n) : rn p LN L n = n := by unfold rn; rw [if_neg h, if_pos k]
theorem rn_no (h : ¬ Runs p LN L n) : rn p LN L n = 0 := by
  by_cases k : 100 < n
  · exact rn_big k
  · unfold rn; rw [if_neg k, if_neg h]
theorem rn_le : rn p LN L n ≤ 100 := by
  by_cases k : 100 < n
  · rw [rn_big k]; omega
  · by_cases h : Runs p LN L n
    · rw [rn_ok k h]; omega
    · rw [rn_no h]; omega
theorem runs0 : Runs p LN L 0 := fun _ h => absurd h (by omega)
theorem Runs.more {i : Nat} (h : Runs p LN L i) (k : code p (st p LN L i) (LN i) (L i) = 0) : Runs p LN L (i + 1) := fun j hj => by
  by_cases e : j = i
  · rw [e]; exact k
  · exact h j (by omega)
theorem runs_stop {i : Nat} (hi : i < n) (k : code p (st p LN L i) (LN i) (L i) ≠ 0) : rn p LN L n = 0 := rn_no fun h => k (h i hi)
theorem ans_n {s : Lg} {m : Nat} {I : Nat → Int} (h : code p s m I = 0) : (ans p s m I).n = p.on := by unfold ans; rw [if_pos h]
theorem ans_cd (s : Lg) (m : Nat) (I : Nat → Int) : (ans p s m I).cd = code p s m I := by
  by_cases h : code p s m I = 0
  · unfold ans; rw [if_pos h]; exact h.symm
  · unfold ans; rw [if_neg h]; rfl
theorem rn_wrong (h : ¬ Pg.Right p) : rn p LN L n = 0 := by
  by_cases k : n = 0
  · have := rn_le (p := p) (LN := LN) (L := L) (n := n)
    subst k
    by_cases q : Runs p LN L 0
    · rw [rn_ok (by omega) q]
    · rw [rn_no q]
  · refine runs_stop (i := 0) (by omega) fun hc => h ?_
    by_cases b : 400 < LN 0
    · rw [code_big b] at hc; exact absurd hc (by decide)
    · by_cases f : Fit p (st p LN L 0) (LN 0) (L 0)
      · exact f.1.r
      · rw [code_bad b f] at hc; exact absurd hc (by decide)
end
end Cy
theorem run_small {p : Pg.Prog} {LN : Nat → Nat} {L : Nat → Nat → Int} (h : PgSmall p) (i : Nat) : LgSmall (Cy.st p LN L i) := by
  cases i with
  | zero => exact start_small p
  | succ i =>
    show LgSmall (Cy.ans p _ _ _).s
    by_cases hc : Cy.code p (Cy.st p LN L i) (LN i) (L i) = 0
    · rw [show Cy.ans p (Cy.st p LN L i) (LN i) (L i) = ⟨Cy.next p (Cy.st p LN L i) (L i), p.on, Cy.out p (Cy.st p LN L i) (L i), 0⟩ from if_pos hc]
      exact ⟨h.1.1, h.1.1⟩
    · rw [show Cy.ans p (Cy.st p LN L i) (LN i) (L i) = Cy.no (Cy.code p (Cy.st p LN L i) (LN i) (L i)) from if_neg hc]
      exact ⟨Nat.zero_le _, Nat.zero_le _⟩
theorem run_tot {p : Pg.Prog} {LN : Nat → Nat} {L : Nat → Nat → Int} {n : Nat} (h : p.on ≤ 10485) : Mn.tot (fun _ => p.on) (Cy.rn p LN L n) ≤ 1048576 := by
  have t : ∀ i, Mn.tot (fun _ => p.on) i ≤ i * 10485 := by
    intro i
    induction i with
    | zero => exact Nat.le_refl _
    | succ i ih => show Mn.tot (fun _ => p.on) i + p.on ≤ _; omega
  have a := t (Cy.rn p LN L n)
  have b := Cy.rn_le (p := p) (LN := LN) (L := L) (n := n)
  omega
/-- What is told of a run. -/
def RowsEnd (B m N : Nat) (L : Nat → Nat → Int) (e : Ending) (W : World) : Prop := ∃ a k, e = .returned (.slice a m k) ∧ SsO B W.heap.size m a k (fun _ => N) L W
theorem RowsEnd.nil {B N : Nat} {L : Nat → Nat → Int} {W : World} : RowsEnd B 0 N L (.returned (.slice none 0 0)) W := ⟨none, 0, rfl, Or.inl ⟨rfl, rfl, rfl⟩⟩
theorem RowsEnd.empty {B N c : Nat} {L : Nat → Nat → Int} {W : World} {g M : Nat} {F : Nat → Value} (hB : B ≤ g) (h : W.rowIs g 24 M F) : RowsEnd B 0 N L (.returned (.slice (some ⟨g, 0, none⟩) 0 c)) W :=
  ⟨_, _, rfl, Or.inr ⟨g, fun _ => none, fun _ => 0, rfl, ⟨hB, h.lt⟩, ⟨M, F, Nat.zero_le _, h, fun j hj => absurd hj (by omega)⟩, fun j hj => absurd hj (by omega), fun i j b hi => absurd hi (by omega)⟩⟩
/-- Rows of their own, that lie apart. -/
structure RowsO (B N i : Nat) (aj : Nat → Option Addr) (cj : Nat → Nat) (L : Nat → Nat → Int) (W : World) : Prop where
  o : ∀ j, j < i → CyO 2 B N (aj j) (cj j) (L j) W
  ne : ∀ i' j b, i' < i → j < i → aj i' = some b → aj j = some b → i' = j
section
variable {B N i : Nat} {aj : Nat → Option Addr} {cj : Nat → Nat} {L : Nat → Nat → Int} {W W' : World}
theorem RowsO.below (h : RowsO B N i aj cj L W) (hb : Below W.heap.size W W') : RowsO B N i aj cj L W' := ⟨fun j hj => (h.o j hj).below hb, h.ne⟩
theorem RowsO.none : RowsO B N 0 aj cj L W := ⟨fun j hj => absurd hj (by omega), fun i' j b hi => absurd hi (by omega)⟩
/-- One more, made behind the others. -/
theorem RowsO.more {D : Nat} {a : Option Addr} {c : Nat} {V : World} (h : RowsO B N i aj cj L V) (hV : V.heap.size ≤ D) (hb : Below V.heap.size V W) (hB : B ≤ D) (k : CyO 2 D N a c (L i) W) : RowsO B N (i + 1) (fun j => if j = i then a else aj j) (fun j => if j = i then c else cj j) L W := by
  have h2 := h.below hb
  refine ⟨fun j hj => ?_, fun i' j b h1 h3 e1 e2 => ?_⟩
  · by_cases e : j = i
    · subst e; simp only [if_true]; exact k.low hB
    · simp only [if_neg e]; exact h2.o j (by omega)
  · have far : ∀ q, q < i → aj q = some b → a = some b → False := fun q hq x1 x2 => by
      rcases h.o q hq with ⟨y, _⟩ | ⟨g, y, _, y2⟩
      · rw [y] at x1; cases x1
      · rw [y] at x1
        cases x1
        have l1 := y2.lt
        have l2 := (k.lt x2).1
        omega
    by_cases d1 : i' = i
    · by_cases d2 : j = i
      · omega
      · rw [if_pos d1] at e1
        rw [if_neg d2] at e2
        exact (far j (by omega) e2 e1).elim
    · by_cases d2 : j = i
      · rw [if_neg d1] at e1
        rw [if_pos d2] at e2
        exact (far i' (by omega) e1 e2).elim
      · rw [if_neg d1] at e1
        rw [if_neg d2] at e2
        exact h.ne i' j b (by omega) (by omega) e1 e2
theorem RowsO.keep (h : RowsO B N i aj cj L W) (hb : ∀ k, B ≤ k → k < W.heap.size → (∀ j, j < i → aj j = some ⟨k, 0, Option.none⟩ → W'.heap[k]? = W.heap[k]?)) : RowsO B N i aj cj L W' := ⟨fun j hj => (h.o j hj).keep (fun k e h1 h2 => hb k h1 h2 j hj e), h.ne⟩
/-- The rows and the list that tells them: an answer. -/
theorem RowsO.ss {g c M : Nat} {F : Nat → Value} (h : RowsO B N i aj cj L W) (hB : B ≤ g) (r : W.rowIs g 24 M F) (hM : i ≤ M) (hF : ∀ j, j < i → F j = .slice (aj j) N (cj j)) : RowsEnd B i N L (.returned (.slice (some ⟨g, 0, Option.none⟩) i c)) W := by
  refine ⟨_, _, rfl, Or.inr ⟨g, aj, cj, rfl, ⟨hB, r.lt⟩, ⟨M, F, hM, r, hF⟩, fun j hj => ?_, h.ne⟩⟩
  rcases h.o j hj with x | ⟨b, e, h1, h2⟩
  · exact Or.inl x
  · exact Or.inr ⟨b, e, ⟨h1, h2.lt⟩, h2⟩
end
/-- The list of rows, as its cells. -/
def rwV (N : Nat) (aj : Nat → Option Addr) (cj : Nat → Nat) (n : Nat) : List Value := (List.range n).map fun j => .slice (aj j) N (cj j)
theorem rwV_len (N : Nat) (aj : Nat → Option Addr) (cj : Nat → Nat) (n : Nat) : (rwV N aj cj n).length = n := by simp [rwV]
theorem rwV_get (N : Nat) (aj : Nat → Option Addr) (cj : Nat → Nat) (n : Nat) {j : Nat} (hj : j < n) : (rwV N aj cj n)[j]? = some (.slice (aj j) N (cj j)) := by simp [rwV, hj]
theorem rwV_more (N : Nat) (aj : Nat → Option Addr) (cj : Nat → Nat) (n : Nat) (a : Option Addr) (c : Nat) : rwV N aj cj n ++ [.slice a N c] = rwV N (fun j => if j = n then a else aj j) (fun j => if j = n then c else cj j) (n + 1) := by
  unfold rwV
  rw [List.range_succ, List.map_append]
  congr 1
  · refine List.map_congr_left fun j hj => ?_
    have : j ≠ n := by have := List.mem_range.1 hj; omega
    simp only [if_neg this]
  · simp
/-- A list of rows that is owned. -/
theorem own_rows {B n N : Nat} {aj : Nat → Option Addr} {cj : Nat → Nat} {v : Value} {W : World} (h : W.ownsRow B 24 1 v n (rwV N aj cj n)) :
    ∃ a c, v = .slice a n c ∧ ((a = none ∧ n = 0 ∧ c = 0) ∨ ∃ g M F, a = some ⟨g, 0, none⟩ ∧ B ≤ g ∧ n ≤ M ∧ W.rowIs g 24 M F ∧ ∀ j, j < n → F j = .slice (aj j) N (cj j)) := by
  rcases h.2 with ⟨rfl, h2⟩ | ⟨g, cap, cur, rfl, e2, e3, e4, e5, e6, e7⟩
  · exact ⟨none, 0, by rw [h2], Or.inl ⟨rfl, h2, rfl⟩⟩
  · refine ⟨_, cap, rfl, Or.inr ⟨g, cap * 1, fun i => cur[i]?.getD undef, rfl, e2, by omega, ⟨cur, e3, e6, fun i hi => ?_⟩, fun j hj => ?_⟩⟩
    · show cur[i]? = some (cur[i]?.getD undef)
      rw [Array.getElem?_eq_getElem (by omega)]
      rfl
    · have h1 : (cur.toList.take (n * 1))[j]? = (rwV N aj cj n)[j]? := by rw [e7]
      rw [List.getElem?_take, if_pos (by omega), Array.getElem?_toList, rwV_get N aj cj n hj] at h1
      show cur[j]?.getD undef = _
      rw [h1]; rfl
section
theorem rwinfo : (Tryz.prog.info? 24).map (fun i => (i.zero, i.size, i.bytes)) = some (some (.slice none 0 0), 1, 24) := by kernel_rfl
theorem run_append_rw (w : World) (ty : TypeId) (B : Nat) (v : Value) (N : Nat) (aj : Nat → Option Addr) (cj : Nat → Nat) (n : Nat) (a : Option Addr) (c : Nat) (hown : w.ownsRow B 24 1 v n (rwV N aj cj n)) (ad : Addr) (k : Nat) (hm : w.cell? (ad.add 0) = some (.slice a N c))
    (h63 : n ≤ 1000000) (hB : B ≤ w.heap.size) :
    ∃ v' w', (Builtin.append_ #[45, 45] ty #[v, .slice (some ad) 1 k]).run Tryz.prog w = .ok v' w' ∧ w'.ownsRow B 24 1 v' (n + 1) (rwV N (fun j => if j = n then a else aj j) (fun j => if j = n then c else cj j) (n + 1)) ∧ w.grownBy w' v.ownBlock := by
  obtain ⟨i0, hi, hz0, hz1, hz2⟩ := info_parts rwinfo
  obtain ⟨v', w', hr, h1, h2, _⟩ := run_append_own (P := Tryz.prog) w B 45 ty 24 i0 _ 1 24 Tryz.underlying45 hi hz0 hz1 hz2 rfl (by decide) v n (rwV N aj cj n) hown ad 1 k [.slice a N c] rfl (by
    intro j u hj
    match j with
    | 0 => simp at hj; rw [hm, hj]
    | j + 1 => simp at hj) (by intro u hu; simp at hu; subst hu; rfl) (by unfold maxLen; omega) (by omega) hB
  exact ⟨v', w', hr, by rw [← rwV_more]; exact h1, h2⟩
theorem wp_append_rw {o : Oper} {a : Act} {w : World} {K : Act → World → Prop} {Q : Exit → Act → World → Prop} (s x : Operand)
    (ho : o.op = .call { callee := .builtin .append, args := #[s, x], argTypes := #[45, 45] })
    (B : Nat) (v : Value) (N : Nat) (aj : Nat → Option Addr) (cj : Nat → Nat) (n : Nat) (ra : Option Addr) (rc : Nat) (hv : a.eval s = v) (hown : w.ownsRow B 24 1 v n (rwV N aj cj n)) (ad : Addr) (k : Nat) (hx : a.eval x = .slice (some ad) 1 k) (hm : w.cell? (ad.add 0) = some (.slice ra N rc))
    (h63 : n ≤ 1000000) (hB : B ≤ w.heap.size)
    (hK : ∀ v' w', w'.ownsRow B 24 1 v' (n + 1) (rwV N (fun j => if j = n then ra else aj j) (fun j => if j = n then rc else cj j) (n + 1)) → w.grownBy w' v.ownBlock → K (a.put o.dst v') w') : o.wp Tryz.prog a w K Q := by
  obtain ⟨v', w', hr, h2, h3⟩ := run_append_rw w o.type B v N aj cj n ra rc hown ad k hm h63 hB
  unfold Oper.wp execOp
  simp only [ho, resolve, invoke, builtin, Sem.run_bind, Sem.run_pure, Result.andThen_ok, List.map_toArray, List.map_cons, List.map_nil, hv, hx, hr]
  exact hK v' w' h2 h3
theorem wpList_append_rw {ops : Array Oper} {rest : List Oper} {o : Oper} {a : Act} {w : World} {Q : Exit → Act → World → Prop} (hgd : o.guard = none) (s x : Operand)
    (ho : o.op = .call { callee := .builtin .append, args := #[s, x], argTypes := #[45, 45] })
    (B : Nat) (v : Value) (N : Nat) (aj : Nat → Option Addr) (cj : Nat → Nat) (n : Nat) (ra : Option Addr) (rc : Nat) (hv : a.eval s = v) (hown : w.ownsRow B 24 1 v n (rwV N aj cj n)) (ad : Addr) (k : Nat) (hx : a.eval x = .slice (some ad) 1 k) (hm : w.cell? (ad.add 0) = some (.slice ra N rc))
    (h63 : n ≤ 1000000) (hB : B ≤ w.heap.size)
    (hK : ∀ v' w', w'.ownsRow B 24 1 v' (n + 1) (rwV N (fun j => if j = n then ra else aj j) (fun j => if j = n then rc else cj j) (n + 1)) → w.grownBy w' v.ownBlock → wpList Tryz.prog ops Q rest (a.put o.dst v') w') : wpList Tryz.prog ops Q (o :: rest) a w :=
  wpList_plain hgd fun _ hK2 => wp_append_rw s x ho B v N aj cj n ra rc hv hown ad k hx hm h63 hB fun v' w' h2 h3 => hK2 _ _ (hK v' w' h2 h3)
end
end Go.Proofs.YtgkdnpnnmmpnmaaGreatDoor
namespace Go.Proofs.YtgkdnpnnmmpnmaaGreatDoor
open Go.RowKit Go.Deep

theorem minfo_ss : (Tryz.prog.info? 24).map (fun i => (i.zero, i.size, i.bytes)) = some (some (.slice none 0 0), 1, 24) := by kernel_rfl
/-- The first lists have been copied. -/
def TSS (B n i : Nat) (LN : Nat → Nat) (L : Nat → Nat → Int) (wr : World) : Prop := ∃ (F : Nat → Value) (h : Nat → Nat), wr.rowIs B 24 n F ∧ (∀ j, j < i → F j = .slice (some ⟨h j, 0, none⟩) (LN j) (LN j) ∧ IsBlk 2 (h j) (LN j) (L j) wr ∧ B < h j) ∧ ∀ a b, a < b → b < i → h a < h b
theorem TSS.lt {B n i : Nat} {LN : Nat → Nat} {L : Nat → Nat → Int} {wr : World} (h : TSS B n i LN L wr) : B < wr.heap.size := by obtain ⟨F, _, h, _⟩ := h; exact h.lt
theorem TSS.cell {B n i j : Nat} {LN : Nat → Nat} {L : Nat → Nat → Int} {wr : World} (h : TSS B n i LN L wr) (hj : j < n) : ∃ v, wr.cell? ⟨B, j, none⟩ = some v := by obtain ⟨F, _, h, _⟩ := h; exact ⟨_, h.cell hj⟩
theorem TSS.frozen {B n i j : Nat} {LN : Nat → Nat} {L : Nat → Nat → Int} {wr : World} (h : TSS B n i LN L wr) : wr.frozen? ⟨B, j, none⟩ = false := by obtain ⟨F, _, h, _⟩ := h; exact h.frozen j
theorem TSS.below {B n i : Nat} {LN : Nat → Nat} {L : Nat → Nat → Int} {w wr : World} (h : TSS B n i LN L w) (hb : Below w.heap.size w wr) : TSS B n i LN L wr := by
  obtain ⟨F, h, h1, h2, h3⟩ := h
  exact ⟨F, h, nrow_below h1 hb, fun j hj => ⟨(h2 j hj).1, (h2 j hj).2.1.below hb, (h2 j hj).2.2⟩, h3⟩
theorem TSS.put {B n i : Nat} {LN : Nat → Nat} {L : Nat → Nat → Int} {w wr : World} (h : TSS B n i LN L w) (hb : Below w.heap.size w wr) (hk : IsBlk 2 w.heap.size (LN i) (L i) wr) : TSS B n (i + 1) LN L (wr.setCell ⟨B, i, none⟩ (.slice (some ⟨w.heap.size, 0, none⟩) (LN i) (LN i))) := by
  have hB := h.lt
  obtain ⟨F, h, h1, h2, h3⟩ := h
  refine ⟨_, fun j => if j = i then w.heap.size else h j, (nrow_below h1 hb).set i _, fun j hj => ?_, fun a b hab hb2 => ?_⟩
  · by_cases e : j = i
    · subst e
      simp only [if_true]
      exact ⟨trivial, hk.block (Below.heap_setCell _ _ _ _ (by show w.heap.size ≠ B; omega)), hB⟩
    · simp only [e, if_false]
      obtain ⟨q1, q2, q3⟩ := h2 j (by omega)
      exact ⟨q1, (q2.below hb).block (Below.heap_setCell _ _ _ _ (by show h j ≠ B; omega)), q3⟩
  · by_cases e : b = i
    · subst e
      have : a ≠ b := by omega
      simp only [this, if_false, if_true]
      exact (h2 a (by omega)).2.1.lt
    · have : a ≠ i := by omega
      simp only [this, e, if_false]
      exact h3 a b hab (by omega)
set_option maxRecDepth 100000 in
set_option maxHeartbeats 2000000 in
theorem mtoSS_any (a : Option Addr) (n cap : Nat) (LN : Nat → Nat) (L : Nat → Nat → Int) (w : World) (h : LsIn a n LN L w) (hn : n ≤ 1048576) (hl : ∀ i, i < n → LN i ≤ 1048576) :
    Calls Tryz.prog 44 #[.slice a n cap] w fun e w' => (e = .returned (.slice (some ⟨w.heap.size, 0, none⟩) n n) ∧ TSS w.heap.size n n LN L w') ∧ Below w.heap.size w w' := by
  have hmk := run_make_row' (P := Tryz.prog) 45 24 (.slice none 0 0) 24 Tryz.underlying45 minfo_ss rfl .i64 .i64 n (by omega) (by omega)
  have H := Lib.hid h
  have HL := Lib.hid hl
  have HST : Hid (TSS w.heap.size n 0 LN L (w.alloc (.cells (madeCells #[.slice none 0 0] n) 24))) := ⟨_, fun _ => 0, World.rowIs_made w (.slice none 0 0) n 24, fun j hj => absurd hj (by omega), fun a b _ hj => absurd hj (by omega)⟩
  clear h hl
  go_enter Tryz.func44, Tryz.ntmps44
  go_wp2_with fail
  clear hmk
  go_loopw [4] (fun iv wr => ∃ (i : Nat), i ≤ n ∧ iv = .int .i64 i ∧ Hid (TSS w.heap.size n i LN L wr) ∧ Hid (Below w.heap.size w wr)) (fun iv _ => n - (intOf iv).toNat)
  case atStart => exact ⟨0, Nat.zero_le _, rfl, HST, (Below.refl _ _).alloc (Nat.le_refl _) _⟩
  case round =>
    obtain ⟨i, hi, rfl, hP, hB⟩ := hrel
    clear HST
    by_cases hlt : i < n
    · have hltz : (i : Int) < (n : Int) := by omega
      obtain ⟨b, o, rfl, ai, ci, c0, ki⟩ := (H.out.below hB.out).one hlt
      have KI := Lib.hid ki
      clear ki
      go_wp2_with fail
      refine (ntoInt64S_any ai (LN i) ci (L i) _ KI.out (HL.out i hlt)).mono ?_
      rintro e w1 ⟨⟨rfl, hk⟩, hb⟩
      have HP2 := Lib.hid (hP.out.put hb hk)
      have HP1 := hP.out.below hb
      have HB1 : Hid (Below w.heap.size w w1) := hB.out.trans (hb.mono hB.out.size)
      obtain ⟨v0, y0⟩ := HP1.cell (j := i) (by omega)
      have z0 := HP1.frozen (j := i)
      have hz : w.heap.size < w1.heap.size := HP1.lt
      clear hP hB hb hk HP1 KI c0
      go_wp2_with fail
      go_roundw
      case rel => exact ⟨i + 1, by omega, by go_num, HP2, HB1.out.setCell (p := ⟨w.heap.size, i, none⟩) (Nat.le_refl _) _⟩
      case measure => simp [intOf]; omega
    · obtain rfl : i = n := by omega
      go_wp2_with fail
      go_ret
      exact ⟨⟨rfl, hP.out⟩, hB.out⟩
/-- What is left behind a list of lists: below nought, or all of it was counted. -/
def SzSS (n l : Nat) (LN : Nat → Nat) (e : Ending) : Prop := ∃ z : Int, e = .returned (.int .i64 z) ∧ (z < 0 ∨ (n + Mn.tot LN n ≤ l ∧ z = ((l - (n + Mn.tot LN n) : Nat) : Int)))
set_option maxRecDepth 100000 in
set_option maxHeartbeats 2000000 in
theorem mszSS_any (a : Option Addr) (n cap : Nat) (LN : Nat → Nat) (L : Nat → Nat → Int) (l : Nat) (w : World) (h : LsIn a n LN L w) (hn : n ≤ 9223372036854775807) (hl : l ≤ 1048576) (hL : ∀ i, i < n → LN i ≤ 9223372036854775807) :
    Calls Tryz.prog 43 #[.slice a n cap, .int .i64 l] w fun e w' => SzSS n l LN e ∧ w' = w := by
  have H := Lib.hid h
  have HL := Lib.hid hL
  have h7 : (l : Int) ≤ 1048576 := by omega
  have h8 : (n : Int) ≤ 9223372036854775807 := by omega
  clear h hL
  by_cases h1 : l < n
  · have h2 : ((l : Int) - (n : Int)) < 0 := by omega
    go_enter Tryz.func43, Tryz.ntmps43
    go_wp2_with fail
    go_ret
    exact ⟨⟨_, rfl, Or.inl (by omega)⟩, rfl⟩
  · have h2 : ¬ ((l : Int) - (n : Int)) < 0 := by omega
    go_enter Tryz.func43, Tryz.ntmps43
    go_wp2_with fail
    go_loopw [1, 5] (fun kv iv wr => ∃ (i : Nat) (k : Nat), i ≤ n ∧ kv = .int .i64 k ∧ iv = .int .i64 i ∧ k ≤ 1048576 ∧ Hid (n + Mn.tot LN i ≤ l ∧ k = l - (n + Mn.tot LN i)) ∧ Hid (wr = w)) (fun _ iv _ => n - (intOf iv).toNat)
    case atStart => exact ⟨0, l - n, Nat.zero_le _, by congr 1; omega, rfl, by omega, ⟨by simp only [Mn.tot]; omega, by simp only [Mn.tot]; omega⟩, rfl⟩
    case round =>
      obtain ⟨i, k, hi, rfl, rfl, hk, hK, hW⟩ := hrel
      obtain rfl := hW.out
      clear hW
      by_cases hlt : i < n
      · have hltz : (i : Int) < (n : Int) := by omega
        obtain ⟨b, o, rfl, ai, ci, c0, _⟩ := H.out.one hlt
        by_cases h3 : LN i ≤ k
        · go_wp2_with fail
          refine (nszInt64_in ai (LN i) ci k _ h3 (by omega)).mono ?_
          rintro e w1 ⟨rfl, rfl⟩
          have h4 : ¬ ((k - LN i : Nat) : Int) < 0 := by omega
          go_wp2_with fail
          go_roundw
          case rel => exact ⟨i + 1, k - LN i, by omega, rfl, by go_num, by omega, ⟨by have := hK.out; simp only [Mn.tot]; omega, by have := hK.out; simp only [Mn.tot]; omega⟩, by first | exact rfl | exact (trivial : True)⟩
          case measure => simp [intOf]; omega
        · go_wp2_with fail
          refine (nszInt64_over ai (LN i) ci k _ (by omega) (by omega) (HL.out i hlt)).mono ?_
          rintro e w1 ⟨rfl, rfl⟩
          go_wp2_with fail
          go_ret
          exact ⟨⟨_, rfl, Or.inl (by omega)⟩, rfl⟩
      · obtain rfl : i = n := by omega
        go_wp2_with fail
        go_ret
        exact ⟨⟨_, rfl, Or.inr ⟨hK.out.1, by rw [← hK.out.2]⟩⟩, rfl⟩
theorem TSS.at_ {g n : Nat} {LN : Nat → Nat} {L : Nat → Nat → Int} {w : World} (h : TSS g n n LN L w) : LsAt (some ⟨g, 0, none⟩) n LN L w := by
  obtain ⟨F, hs, h1, h2, h3⟩ := h
  exact Or.inr ⟨g, rfl, fun i hi => ⟨_, _, (h1.cell hi).trans (by rw [(h2 i hi).1]), (h2 i hi).2.1.at_⟩⟩
end Go.Proofs.YtgkdnpnnmmpnmaaGreatDoor
namespace Go.Proofs.YtgkdnpnnmmpnmaaGreatDoor
open Go.RowKit Go.Deep

def ListsSmall (n : Nat) (LN : Nat → Nat) : Prop := n ≤ 1048576 ∧ Mn.tot LN n ≤ 1048576 ∧ ∀ i, i < n → LN i ≤ 1048576
def SsSmall (m N : Nat) : Prop := m ≤ 1048576 ∧ Mn.tot (fun _ => N) m ≤ 1048576 ∧ ∀ i, i < m → (fun _ : Nat => N) i ≤ 1048576
theorem run_ss {p : Pg.Prog} {LN : Nat → Nat} {L : Nat → Nat → Int} {n : Nat} (h : PgSmall p) : SsSmall (Cy.rn p LN L n) p.on := by
  refine ⟨Nat.le_trans Cy.rn_le (by decide), ?_, fun i _ => h.2.1⟩
  by_cases k : Pg.Right p
  · exact run_tot (by have := k.on; omega)
  · rw [Cy.rn_wrong k]; exact Nat.zero_le _
theorem Rng.mono {lo hi lo' hi' : Nat} {W W' : World} (h : Rng lo hi W W') (h1 : lo' ≤ lo) (h2 : hi ≤ hi') : Rng lo' hi' W W' := ⟨h.os, h.tape, h.output, h.size, fun k hk hn => h.block k hk (fun q => hn (by omega))⟩
theorem rng_r {lo hi : Nat} {W W' : World} (h : OnlyR lo hi W W') : Rng lo hi W W' := ⟨h.os, h.tape, h.output, h.size, fun k hk hn => h.block k hk (by omega)⟩
theorem stab_sso {B hi lo n k : Nat} {a : Option Addr} {LN : Nat → Nat} {L : Nat → Nat → Int} (hl : lo ≤ B) : Stab lo hi (fun V => SsO B hi n a k LN L V) := fun _ _ h hk => h.same (fun q h1 h2 h3 => hk q (Nat.le_trans hl h1) h2 h3)
theorem fact_sso {B lo n k : Nat} {a : Option Addr} {LN : Nat → Nat} {L : Nat → Nat → Int} {W : World} (h : SsO B W.heap.size n a k LN L W) (hl : lo ≤ B) (hs : lo ≤ W.heap.size) : Fact lo W.heap.size (fun V => SsO B W.heap.size n a k LN L V) W := ⟨h, stab_sso hl, hs, Nat.le_refl _⟩
/-- Lists that were laid below a number. -/
def TSB (g n hi : Nat) (LN : Nat → Nat) (L : Nat → Nat → Int) (W : World) : Prop := g < hi ∧ ∃ (F : Nat → Value) (h : Nat → Nat), W.rowIs g 24 n F ∧ (∀ j, j < n → F j = .slice (some ⟨h j, 0, none⟩) (LN j) (LN j) ∧ IsBlk 2 (h j) (LN j) (L j) W ∧ g < h j ∧ h j < hi) ∧ ∀ a b, a < b → b < n → h a < h b
theorem TSS.tsb {g n : Nat} {LN : Nat → Nat} {L : Nat → Nat → Int} {W : World} (h : TSS g n n LN L W) : TSB g n W.heap.size LN L W := by
  refine ⟨h.lt, ?_⟩
  obtain ⟨F, k, h1, h2, h3⟩ := h
  exact ⟨F, k, h1, fun j hj => ⟨(h2 j hj).1, (h2 j hj).2.1, (h2 j hj).2.2, (h2 j hj).2.1.lt⟩, h3⟩
theorem TSB.tss {g n hi : Nat} {LN : Nat → Nat} {L : Nat → Nat → Int} {W : World} (h : TSB g n hi LN L W) : TSS g n n LN L W := by
  obtain ⟨_, F, k, h1, h2, h3⟩ := h
  exact ⟨F, k, h1, fun j hj => ⟨(h2 j hj).1, (h2 j hj).2.1, (h2 j hj).2.2.1⟩, h3⟩
theorem stab_tsb {g n hi lo : Nat} {LN : Nat → Nat} {L : Nat → Nat → Int} (hl : lo ≤ g) : Stab lo hi (fun V => TSB g n hi LN L V) := by
  rintro W W' ⟨h0, F, k, h1, h2, h3⟩ hk
  exact ⟨h0, F, k, h1.of_block (hk g hl h0 h1.lt), fun j hj => ⟨(h2 j hj).1, (h2 j hj).2.1.block (hk _ (by have := (h2 j hj).2.2.1; omega) (h2 j hj).2.2.2 (h2 j hj).2.1.lt), (h2 j hj).2.2⟩, h3⟩
theorem fact_tsb {g n lo : Nat} {LN : Nat → Nat} {L : Nat → Nat → Int} {W : World} (h : TSS g n n LN L W) (hl : lo ≤ g) : Fact lo W.heap.size (fun V => TSB g n W.heap.size LN L V) W := ⟨h.tsb, stab_tsb hl, Nat.le_trans hl (Nat.le_of_lt h.lt), Nat.le_refl _⟩
theorem lists_sz (a : Option Addr) (n cap : Nat) (LN : Nat → Nat) (L : Nat → Nat → Int) (l : Nat) (w : World) (h : LsIn a n LN L w) (hn : n ≤ 9223372036854775807) (hl : l ≤ 1048576) (hL : ∀ i, i < n → LN i ≤ 9223372036854775807) :
    Calls Tryz.prog 43 #[.slice a n cap, .int .i64 l] w fun e w' => (∃ z : Int, e = .returned (.int .i64 z) ∧ (z < 0 ∨ ((0 ≤ z ∧ z ≤ l) ∧ ListsSmall n LN))) ∧ Below w.heap.size w w' := by
  refine (mszSS_any a n cap LN L l w h hn hl hL).mono ?_
  rintro e w1 ⟨⟨z, rfl, hz⟩, rfl⟩
  refine ⟨⟨z, rfl, ?_⟩, Below.refl _ _⟩
  rcases hz with hz | ⟨h1, h2⟩
  · exact Or.inl hz
  · exact Or.inr ⟨⟨by omega, by omega⟩, by omega, by omega, fun i hi => by have := Mn.le_tot LN hi; omega⟩
theorem lists_conv (a : Option Addr) (n cap : Nat) (LN : Nat → Nat) (L : Nat → Nat → Int) (w : World) (h : LsIn a n LN L w) (hs : ListsSmall n LN) :
    Calls Tryz.prog 44 #[.slice a n cap] w fun e w' => (∃ g, e = .returned (.slice (some ⟨g, 0, none⟩) n n) ∧ w.heap.size ≤ g ∧ TSS g n n LN L w') ∧ Below w.heap.size w w' := by
  refine (mtoSS_any a n cap LN L w h hs.1 hs.2.2).mono ?_
  rintro e w1 ⟨⟨rfl, h1⟩, hb⟩
  exact ⟨⟨_, rfl, Nat.le_refl _, h1⟩, hb⟩
set_option maxRecDepth 100000 in
set_option maxHeartbeats 2000000 in
theorem tmark_any (g n c k lo hi : Nat) (LN : Nat → Nat) (L : Nat → Nat → Int) (w : World) (ht0 : TSB g n hi LN L w) (hlo : lo ≤ g) (hs : ListsSmall n LN) (hk : k ≤ 67108864) :
    Calls Tryz.prog 46 #[.slice (some ⟨g, 0, none⟩) n c, .int .i64 k] w fun e w' => e = .returned (.int .i64 ((k + Mn.tot LN n : Nat) : Int)) ∧ Rng lo hi w w' := by
  obtain ⟨h0, F, h, hr, h2, hd⟩ := ht0
  have hn := hs.1
  have ht := hs.2.1
  have HR := Lib.hid hr
  have H2 := Lib.hid h2
  have HD := Lib.hid hd
  have HLO := Lib.hid (And.intro h0 hlo)
  clear hr h2 hd h0 hlo hs
  go_enter Tryz.func46, Tryz.ntmps46
  go_wp2_with fail
  go_loopw [1, 5] (fun kv iv wr => ∃ (i : Nat), i ≤ n ∧ kv = .int .i64 ((k + Mn.tot LN i : Nat) : Int) ∧ iv = .int .i64 i ∧ Hid (Rng (g + 1) hi w wr) ∧ Hid (∀ j, i ≤ j → j < n → wr.heap[h j]? = w.heap[h j]?)) (fun _ iv _ => n - (intOf iv).toNat)
  case atStart => exact ⟨0, Nat.zero_le _, rfl, rfl, ⟨rfl, rfl, rfl, Nat.le_refl _, fun _ _ _ => rfl⟩, fun _ _ _ => rfl⟩
  case round =>
    obtain ⟨i, hi2, rfl, rfl, hO, hP⟩ := hrel
    by_cases hlt : i < n
    · have hltz : (i : Int) < (n : Int) := by omega
      have R1 := HR.out.of_block (hO.out.block g HR.out.lt (by omega))
      have c0 := R1.cell hlt
      rw [(H2.out i hlt).1] at c0
      have K1 := (H2.out i hlt).2.1.block (hP.out i (Nat.le_refl _) hlt)
      have HK1 := Lib.hid K1
      have zg := R1.lt
      have hle := Mn.tot_le LN n i hi2
      obtain ⟨K, hK⟩ : ∃ K : Nat, K = k + Mn.tot LN i := ⟨_, rfl⟩
      rw [← hK]
      have hK2 : K ≤ 68157440 := by omega
      have HKE : Hid (K = k + Mn.tot LN i) := hK
      have hl1 := Mn.le_tot LN hlt
      have HLE : Hid (LN i ≤ 1048576) := Nat.le_trans hl1 ht
      clear R1 K1 hK hle hl1
      go_wp2_with fail
      refine (nmarkInt64S_any (h i) (LN i) (LN i) K (L i) _ HK1.out HLE.out (by omega)).mono ?_
      rintro e w1 ⟨rfl, _, ho⟩
      have HO1 : Hid (Rng (g + 1) hi w w1) := ⟨ho.os.trans hO.out.os, ho.tape.trans hO.out.tape, ho.output.trans hO.out.output, Nat.le_trans hO.out.size ho.size, fun q hq hn => (ho.block q (Nat.lt_of_lt_of_le hq hO.out.size) (fun e => hn (by subst e; exact ⟨(H2.out i hlt).2.2.1, (H2.out i hlt).2.2.2⟩))).trans (hO.out.block q hq hn)⟩
      have HP1 : Hid (∀ j, i + 1 ≤ j → j < n → w1.heap[h j]? = w.heap[h j]?) := fun j h1 h2 => (ho.block _ (by have := (H2.out j h2).2.1.lt; have := hO.out.size; omega) (by have := HD.out i j (by omega) h2; omega)).trans (hP.out j (by omega) h2)
      clear hO hP ho c0 zg
      go_wp2_with fail
      go_roundw
      case rel =>
        refine ⟨i + 1, by omega, ?_, by go_num, HO1, HP1⟩
        have := HKE.out
        simp only [Mn.tot]
        congr 1; omega
      case measure => simp [intOf]; omega
    · obtain rfl : i = n := by omega
      go_wp2_with fail
      go_ret
      exact ⟨rfl, hO.out.mono (by have := HLO.out.2; omega) (Nat.le_refl _)⟩
end Go.Proofs.YtgkdnpnnmmpnmaaGreatDoor
namespace Go.Proofs.YtgkdnpnnmmpnmaaGreatDoor
open Go.RowKit Go.Deep

theorem mk_ss (n : Nat) (hn : n ≤ 1048576) (w : World) : (Instr.makeSlice 45 (.int .i64 (n : Int)) (.int .i64 (n : Int))).run Tryz.prog w = .ok (.slice (some ⟨w.heap.size, 0, none⟩) n n) (w.alloc (.cells (madeCells #[.slice none 0 0] (n * 1)) 24)) := by
  obtain ⟨i0, hi, hz0, hz1, hz2⟩ := info_parts rwinfo
  have := run_make (P := Tryz.prog) w 45 24 i0 _ Tryz.underlying45 hi hz0 .i64 .i64 n n (by omega) (Int.le_refl _) (by rw [hz2]; omega) (by omega)
  rw [hz1] at this
  simp only [Int.toNat_natCast] at this
  exact this
/-- One of the lists that came in. -/
theorem TSS.one {g n i : Nat} {LN : Nat → Nat} {L : Nat → Nat → Int} {W : World} (h : TSS g n n LN L W) (hi : i < n) : ∃ b, W.cell? ⟨g, i, none⟩ = some (.slice (some ⟨b, 0, none⟩) (LN i) (LN i)) ∧ IsBlk 2 b (LN i) (L i) W := by
  obtain ⟨F, k, h1, h2, _⟩ := h
  exact ⟨k i, by rw [h1.cell hi, (h2 i hi).1], (h2 i hi).2.1⟩
/-- What stands ahead of a cycle of a run. -/
structure CyQ (p : Pg.Prog) (la : Option Addr) (lk : Nat) (fa : Option Addr) (fk : Nat) (wa : Option Addr) (wk : Nat) (LN : Nat → Nat) (L : Nat → Nat → Int) (gs gl i n : Nat) (a : Option Addr) (k : Nat) (b : Option Addr) (l : Nat) (aj : Nat → Option Addr) (cj : Nat → Nat) (F : Nat → Value) (w W : World) : Prop where
  bp : W.rowIs w.heap.size 27 3 (rowN (pgL p la lk fa fk wa wk))
  bs : W.rowIs gs 33 3 (rowN (lgL (Cy.st p LN L i) a k b l))
  lg : LgO 2 w.heap.size (Cy.st p LN L i).n k (Cy.st p LN L i).m l a b (Cy.st p LN L i).T (Cy.st p LN L i).C W
  ol : W.rowIs gl 24 n F
  oF : ∀ j, j < i → F j = .slice (aj j) p.on (cj j)
  lo : w.heap.size ≤ gs ∧ w.heap.size ≤ gl
  rs : RowsO w.heap.size p.on i aj cj (Cy.ro p LN L) W
  old : Below w.heap.size w W
section
variable {p : Pg.Prog} {la : Option Addr} {lk : Nat} {fa : Option Addr} {fk : Nat} {wa : Option Addr} {wk : Nat} {LN : Nat → Nat} {L : Nat → Nat → Int} {gs gl i n : Nat} {a : Option Addr} {k : Nat} {b : Option Addr} {l : Nat} {aj : Nat → Option Addr} {cj : Nat → Nat} {F : Nat → Value} {w W W' : World}
theorem CyQ.below (h : CyQ p la lk fa fk wa wk LN L gs gl i n a k b l aj cj F w W) (hb : Below W.heap.size W W') : CyQ p la lk fa fk wa wk LN L gs gl i n a k b l aj cj F w W' :=
  ⟨nrow_below h.bp hb, nrow_below h.bs hb, h.lg.below hb, nrow_below h.ol hb, h.oF, h.lo, h.rs.below hb, h.old.trans (hb.mono h.old.size)⟩
/-- Behind the cycle. -/
theorem CyQ.next {x : Cy.Ans} {a' b' c : Option Addr} {k' l' q D : Nat} (h : CyQ p la lk fa fk wa wk LN L gs gl i n a k b l aj cj F w W) (hb : Below W.heap.size W W') (hx : x = Cy.ans p (Cy.st p LN L i) (LN i) (L i)) (hn : x.n = p.on) (hD : W.heap.size ≤ D)
    (ho : CoO 2 D x.s.n k' x.s.m l' x.n q a' b' c x.s.T x.s.C x.O W') :
    CyQ p la lk fa fk wa wk LN L gs gl (i + 1) n a' k' b' l' (fun j => if j = i then c else aj j) (fun j => if j = i then q else cj j) (fun j => if j = i then .slice c x.n q else F j) w ((((W'.setCell ⟨gs, 0, none⟩ (.slice a' x.s.n k')).setCell ⟨gs, 1, none⟩ (.slice b' x.s.m l')).setCell ⟨gs, 2, none⟩ (.bool x.s.fl)).setCell ⟨gl, i, none⟩ (.slice c x.n q)) := by
  have hw : w.heap.size ≤ W.heap.size := h.old.size
  have h2 := h.below hb
  have hs : Cy.st p LN L (i + 1) = x.s := by rw [hx]; rfl
  have n1 : gs ≠ w.heap.size := cyrow_ne h.bs h.bp (by decide)
  have n2 : gl ≠ w.heap.size := cyrow_ne h.ol h.bp (by decide)
  have n3 : gl ≠ gs := cyrow_ne h.ol h.bs (by decide)
  have t1 : ∀ j, a' = some ⟨j, 0, none⟩ ∨ b' = some ⟨j, 0, none⟩ ∨ c = some ⟨j, 0, none⟩ → j ≠ gs ∧ j ≠ gl := by
    rintro j e
    refine ⟨?_, ?_⟩
    · rintro rfl
      rcases e with e | e | e
      · exact ho.s.t.ne h2.bs (by decide) e
      · exact ho.s.c.ne h2.bs (by decide) e
      · exact ho.o.ne h2.bs (by decide) e
    · rintro rfl
      rcases e with e | e | e
      · exact ho.s.t.ne h2.ol (by decide) e
      · exact ho.s.c.ne h2.ol (by decide) e
      · exact ho.o.ne h2.ol (by decide) e
  have kb : ∀ j, j ≠ gs → j ≠ gl → (((((W'.setCell ⟨gs, 0, none⟩ (.slice a' x.s.n k')).setCell ⟨gs, 1, none⟩ (.slice b' x.s.m l')).setCell ⟨gs, 2, none⟩ (.bool x.s.fl)).setCell ⟨gl, i, none⟩ (.slice c x.n q)).heap)[j]? = W'.heap[j]? := fun j e1 e2 =>
    (Below.heap_setCell _ _ _ _ e2).trans ((Below.heap_setCell _ _ _ _ e1).trans ((Below.heap_setCell _ _ _ _ e1).trans (Below.heap_setCell _ _ _ _ e1)))
  have hco : x.O = Cy.ro p LN L i := by rw [hx]; rfl
  have row := h.rs.more (a := c) (c := q) hD hb (Nat.le_trans hw hD) (by rw [← hco, ← hn]; exact ho.o)
  refine ⟨nrow_set (nrow_set (nrow_set (nrow_set h2.bp (p := ⟨gs, 0, none⟩) (Ne.symm n1) _) (p := ⟨gs, 1, none⟩) (Ne.symm n1) _) (p := ⟨gs, 2, none⟩) (Ne.symm n1) _) (p := ⟨gl, i, none⟩) (Ne.symm n2) _, ?_, ?_, ?_, ?_, h.lo, ?_, ?_⟩
  · rw [hs]
    exact nrow_set (rowN_put (rowN_put (rowN_put h2.bs 0 (.slice a' x.s.n k') (by simp)) 1 (.slice b' x.s.m l') (by simp)) 2 (.bool x.s.fl) (by simp)) (p := ⟨gl, i, none⟩) (Ne.symm n3) _
  · rw [hs]
    exact (ho.s.low (Nat.le_trans hw hD)).keep (fun j e _ _ => kb j (t1 j (by rcases e with e | e; exact Or.inl e; exact Or.inr (Or.inl e))).1 (t1 j (by rcases e with e | e; exact Or.inl e; exact Or.inr (Or.inl e))).2)
  · exact (nrow_set (nrow_set (nrow_set h2.ol (p := ⟨gs, 0, none⟩) n3 _) (p := ⟨gs, 1, none⟩) n3 _) (p := ⟨gs, 2, none⟩) n3 _).set i _
  · intro j hj
    by_cases e : j = i
    · simp only [if_pos e]; rw [hn]
    · simp only [if_neg e]; exact h.oF j (by omega)
  · refine row.keep (fun g _ _ j hj e => kb g ?_ ?_)
    · rintro rfl
      exact (row.o j hj).ne h2.bs (by decide) e
    · rintro rfl
      exact (row.o j hj).ne h2.ol (by decide) e
  · exact (((h2.old.setCell (p := ⟨gs, 0, none⟩) h.lo.1 _).setCell (p := ⟨gs, 1, none⟩) h.lo.1 _).setCell (p := ⟨gs, 2, none⟩) h.lo.1 _).setCell (p := ⟨gl, i, none⟩) h.lo.2 _
end
set_option maxRecDepth 100000 in
set_option maxHeartbeats 8000000 in
theorem implLRun_any (p : Pg.Prog) (la : Option Addr) (lk : Nat) (fa : Option Addr) (fk : Nat) (wa : Option Addr) (wk : Nat) (g n ca : Nat) (LN : Nat → Nat) (L : Nat → Nat → Int) (w : World) (h : PgAt p la fa wa w) (hs : PgSmall p) (h2 : TSS g n n LN L w) (hn : n ≤ 1048576) (hl : ∀ i, i < n → LN i ≤ 1048576) (hg : Et w) :
    Calls Tryz.prog 21 #[pgV p la lk fa fk wa wk, .slice (some ⟨g, 0, none⟩) n ca] w fun e w' => RowsEnd w.heap.size (Cy.rn p LN L n) p.on (Cy.ro p LN L) e w' ∧ Below w.heap.size w w' := by
  by_cases big : 100 < n
  · have bigz : (100 : Int) < (n : Int) := by omega
    have HE := Lib.hid (Cy.rn_big (p := p) (LN := LN) (L := L) big)
    clear big
    go_enter Tryz.func21, Tryz.ntmps21
    go_wp2_with fail
    go_ret
    rw [HE.out]
    exact ⟨RowsEnd.nil, nbel_alloc _ _⟩
  obtain ⟨W, hW⟩ : ∃ W, W = w.alloc (.cells #[.slice la p.bn lk, .slice fa p.on fk, .slice wa p.nn wk] 27) := ⟨_, rfl⟩
  have R0 : Hid (W.rowIs w.heap.size 27 3 (rowN (pgL p la lk fa fk wa wk))) := by show World.rowIs _ _ _ _ _; rw [hW]; exact rowN_alloc w (pgL p la lk fa fk wa wk) _
  have B0 : Hid (Below w.heap.size w W) := by show Below _ _ _; rw [hW]; exact nbel_alloc _ _
  have H := Lib.hid h
  have HS := Lib.hid hs
  have H2 := Lib.hid h2
  have HL := Lib.hid hl
  have HG := Lib.hid hg
  have HBG := Lib.hid big
  have bigz : ¬ (100 : Int) < (n : Int) := by omega
  have HW := Lib.hid hW
  have hmk := mk_ss n hn
  clear h hs hW h2 hl hg big
  obtain ⟨⟨x0, x1, x2⟩, _⟩ := rowN3 R0.out
  rw [HW.out] at x0 x1 x2
  go_enter Tryz.func21, Tryz.ntmps21
  go_wp2_with fail
  rw [← HW.out]
  clear HW x0 x1 x2
  refine (implStart_any p la lk fa fk wa wk W (H.out.below B0.out) HS.out).mono ?_
  rintro e w1 ⟨⟨a, k, b, l, rfl, hO⟩, hb⟩
  have R1 := Lib.hid (nrow_below R0.out hb)
  have B1 : Hid (Below w.heap.size w w1) := B0.out.trans (hb.mono B0.out.size)
  have O1 := Lib.hid (hO.low B0.out.size)
  clear hb hO R0 B0
  go_wp2_with fail
  obtain ⟨gs, hgs⟩ : ∃ gs, gs = w1.heap.size := ⟨_, rfl⟩
  obtain ⟨V1, hV1⟩ : ∃ V1, V1 = w1.alloc (.cells #[.slice a (Cy.start p).n k, .slice b (Cy.start p).m l, .bool (Cy.start p).fl] 33) := ⟨_, rfl⟩
  have bV1 : Below w1.heap.size w1 V1 := by rw [hV1]; exact nbel_alloc _ _
  have rV1 : V1.rowIs gs 33 3 (rowN (lgL (Cy.start p) a k b l)) := by rw [hV1, hgs]; exact rowN_alloc w1 (lgL (Cy.start p) a k b l) _
  obtain ⟨gl, hgl⟩ : ∃ gl, gl = V1.heap.size := ⟨_, rfl⟩
  obtain ⟨V2, hV2⟩ : ∃ V2, V2 = V1.alloc (.cells (madeCells #[.slice none 0 0] n) 24) := ⟨_, rfl⟩
  have bV2 : Below V1.heap.size V1 V2 := by rw [hV2]; exact nbel_alloc _ _
  have rV2 : V2.rowIs gl 24 n (fun _ => .slice none 0 0) := by rw [hV2, hgl]; exact World.rowIs_made V1 (.slice none 0 0) n 24
  have U0 : Hid (CyQ p la lk fa fk wa wk LN L gs gl 0 n a k b l (fun _ => none) (fun _ => 0) (fun _ => .slice none 0 0) w V2) :=
    ⟨nrow_below (nrow_below R1.out bV1) bV2, nrow_below rV1 bV2, (O1.out.below bV1).below bV2, rV2, fun j hj => absurd hj (by omega), ⟨by rw [hgs]; exact B1.out.size, by rw [hgl]; exact Nat.le_trans B1.out.size bV1.size⟩, RowsO.none, (B1.out.trans (bV1.mono B1.out.size)).trans (bV2.mono (Nat.le_trans B1.out.size bV1.size))⟩
  have hgl2 : gl = gs + 1 := by rw [hgl, hV1, hgs]; simp
  rw [← hV1, ← hV2, ← hgs, ← hgl2]
  clear hV1 hV2 hgs hgl hgl2 bV1 bV2 rV1 rV2 R1 B1 O1
  go_loopw [20] (fun iv wr => ∃ (i : Nat), i ≤ n ∧ iv = .int .i64 i ∧ Hid (Cy.Runs p LN L i ∧ ∃ a k b l aj cj F, CyQ p la lk fa fk wa wk LN L gs gl i n a k b l aj cj F w wr)) (fun iv _ => n - (intOf iv).toNat)
  case atStart => exact ⟨0, Nat.zero_le _, rfl, ⟨Cy.runs0, _, _, _, _, _, _, _, U0.out⟩⟩
  case round =>
    obtain ⟨i, hi2, rfl, hX⟩ := hrel
    clear U0
    obtain ⟨hR, a, k, b, l, aj, cj, F, hU⟩ := hX.out
    have HR := Lib.hid hR
    have U := Lib.hid hU
    clear hX hR hU
    by_cases hlt : i < n
    · have hltz : (i : Int) < (n : Int) := by omega
      have HLT := Lib.hid hlt
      obtain ⟨lb, lc, hlb⟩ := (TSS.one (H2.out.below U.out.old) hlt)
      have LB := Lib.hid hlb
      clear hlb hlt
      obtain ⟨⟨x0, x1, x2⟩, _⟩ := rowN3 U.out.bp
      obtain ⟨⟨y0, y1, y2⟩, _⟩ := rowN3 U.out.bs
      go_wp2_with fail
      clear x0 x1 x2 y0 y1 y2 lc
      refine (implCycle_any p la lk fa fk wa wk (Cy.st p LN L i) a k b l (some ⟨lb, 0, none⟩) (LN i) (LN i) (L i) wr (H.out.below U.out.old) HS.out U.out.lg.ls (run_small HS.out i) LB.out.at_ (HL.out i HLT.out) (Nat.le_refl _) (HG.out.below U.out.old)).mono ?_
      rintro e w2 ⟨hE, hb⟩
      obtain ⟨x, hx⟩ : ∃ x, x = Cy.ans p (Cy.st p LN L i) (LN i) (L i) := ⟨_, rfl⟩
      rw [← hx] at hE
      have HX := Lib.hid hx
      obtain ⟨a', k', b', l', c, q, rfl, hO⟩ := hE
      obtain ⟨ob, hob⟩ : ∃ ob, ob = w2.heap.size := ⟨_, rfl⟩
      obtain ⟨Z, hZ⟩ : ∃ Z, Z = w2.alloc (.cells (coA x a' k' b' l' c q) 38) := ⟨_, rfl⟩
      have hbz : Below wr.heap.size wr Z := hb.trans (by rw [hZ]; exact (nbel_alloc _ _).mono hb.size)
      have hoz : CoO 2 wr.heap.size x.s.n k' x.s.m l' x.n q a' b' c x.s.T x.s.C x.O Z := by rw [hZ]; exact hO.below (nbel_alloc _ _)
      have hrz : Z.rowIs ob 38 5 (rowN (coL x a' k' b' l' c q)) := by rw [hZ, hob]; exact rowN_alloc w2 (coL x a' k' b' l' c q) _
      have OZ := Lib.hid hoz
      have RZ := Lib.hid hrz
      have BZ := Lib.hid hbz
      have HZ := Lib.hid hZ
      have HOB := Lib.hid hob
      clear hO hb hx hob hoz hbz hZ
      obtain ⟨⟨o0, o1, o2, o3, o4⟩, _⟩ := rowN5 hrz
      rw [HZ.out, HOB.out] at o4
      clear hrz o0 o1 o2 o3
      by_cases hc : Cy.code p (Cy.st p LN L i) (LN i) (L i) = 0
      · have HC := Lib.hid hc
        have hcd : x.cd = 0 := by rw [HX.out, Cy.ans_cd]; exact hc
        have HN : Hid (x.n = p.on) := by show _ = _; rw [HX.out]; exact Cy.ans_n hc
        rw [hcd] at o4
        have HCD := Lib.hid hcd
        clear hc hcd
        go_wp2_with fail
        rw [← HZ.out, ← HOB.out]
        clear HZ HOB o4
        refine wp_region_held_drew (S := fun V => V.rowIs ob 38 5 (rowN (coL x a' k' b' l' c q))) (by kernel_rfl) (nrow_below RZ.out (Below.refl _ _).drew) (fun hHeld => ?_)
        have OY := Lib.hid (OZ.out.below (Below.refl Z.heap.size Z).drew)
        have RY := Lib.hid (nrow_below RZ.out (Below.refl _ Z).drew)
        have BY : Hid (Below wr.heap.size wr Z.drew) := BZ.out.trans ((Below.refl Z.heap.size Z).drew.mono BZ.out.size)
        obtain ⟨Y, hY⟩ : ∃ Y, Y = Z.drew := ⟨_, rfl⟩
        rw [← hY] at hHeld OY RY BY ⊢
        clear hY OZ RZ BZ
        refine take_do (i := 0) (v := (.slice (some ⟨gl, 0, none⟩) n n)) rfl (by kernel_rfl) (by kernel_rfl) (by kernel_rfl) (fun _ _ _ h => h) (by rfl) ?_ (by assumption) ?_
        · intro w hSw
          go_simp
        simp only [Act.put, List.setIfInBounds_toArray, List.set_cons_zero, List.set_cons_succ]
        refine take_do (i := 1) (v := (.int .i64 i)) rfl (by kernel_rfl) (by kernel_rfl) (by kernel_rfl) (fun _ _ _ h => h) (by rfl) ?_ (by assumption) ?_
        · intro w hSw
          go_simp
        simp only [Act.put, List.setIfInBounds_toArray, List.set_cons_zero, List.set_cons_succ]
        refine take_do (i := 2) (v := (.pointer (some ⟨ob, 0, none⟩))) rfl (by kernel_rfl) (by kernel_rfl) (by kernel_rfl) (fun _ _ _ h => h) (by rfl) ?_ (by assumption) ?_
        · intro w hSw
          go_simp
        simp only [Act.put, List.setIfInBounds_toArray, List.set_cons_zero, List.set_cons_succ]
        refine take_do (i := 3) (v := (.agg #[.slice a' x.s.n k', .slice b' x.s.m l', .bool x.s.fl])) rfl (by kernel_rfl) (by kernel_rfl) (by kernel_rfl) (fun _ _ _ h => h) (by rfl) ?_ (by assumption) ?_
        · intro w hSw
          obtain ⟨⟨r0, r1, r2, r3, r4⟩, _⟩ := rowN5 hSw
          go_simp
        simp only [Act.put, List.setIfInBounds_toArray, List.set_cons_zero, List.set_cons_succ]
        refine take_do (i := 4) (v := (.pointer (some ⟨ob, 3, none⟩))) rfl (by kernel_rfl) (by kernel_rfl) (by kernel_rfl) (fun _ _ _ h => h) (by rfl) ?_ (by assumption) ?_
        · intro w hSw
          go_simp
        simp only [Act.put, List.setIfInBounds_toArray, List.set_cons_zero, List.set_cons_succ]
        refine take_do (i := 5) (v := (.slice c x.n q)) rfl (by kernel_rfl) (by kernel_rfl) (by kernel_rfl) (fun _ _ _ h => h) (by rfl) ?_ (by assumption) ?_
        · intro w hSw
          obtain ⟨⟨r0, r1, r2, r3, r4⟩, _⟩ := rowN5 hSw
          go_simp
        simp only [Act.put, List.setIfInBounds_toArray, List.set_cons_zero, List.set_cons_succ]
        refine take_call (i := 6) rfl (by kernel_rfl) (fun K2 hK => ?_)
        have UY := Lib.hid (U.out.below BY.out)
        obtain ⟨⟨z0, z1, z2⟩, f0, f1, f2⟩ := rowN3 UY.out.bs
        have hrl := UY.out.bs.lt
        go_simp
        have NX := Lib.hid (U.out.next BY.out HX.out HN.out (Nat.le_refl _) OY.out)
        have RW := Lib.hid (nrow_set (nrow_set (nrow_set RY.out (p := ⟨gs, 0, none⟩) (cyrow_ne RY.out UY.out.bs (by decide)) (.slice a' x.s.n k')) (p := ⟨gs, 1, none⟩) (cyrow_ne RY.out UY.out.bs (by decide)) (.slice b' x.s.m l')) (p := ⟨gs, 2, none⟩) (cyrow_ne RY.out UY.out.bs (by decide)) (.bool x.s.fl))
        have OL := Lib.hid (nrow_set (nrow_set (nrow_set UY.out.ol (p := ⟨gs, 0, none⟩) (cyrow_ne UY.out.ol UY.out.bs (by decide)) (.slice a' x.s.n k')) (p := ⟨gs, 1, none⟩) (cyrow_ne UY.out.ol UY.out.bs (by decide)) (.slice b' x.s.m l')) (p := ⟨gs, 2, none⟩) (cyrow_ne UY.out.ol UY.out.bs (by decide)) (.bool x.s.fl))
        obtain ⟨W7, hW7⟩ : ∃ W7, W7 = ((Y.setCell ⟨gs, 0, none⟩ (.slice a' x.s.n k')).setCell ⟨gs, 1, none⟩ (.slice b' x.s.m l')).setCell ⟨gs, 2, none⟩ (.bool x.s.fl) := ⟨_, rfl⟩
        rw [← hW7] at NX RW OL ⊢
        clear hW7 z0 z1 z2 f0 f1 f2 hrl
        refine hK.out _ _ RW.out (fun hHeld2 => ?_)
        clear hK hHeld UY U OY RY BY
        refine take_do (i := 7) (v := (.pointer (some ⟨gl, i, none⟩))) rfl (by kernel_rfl) (by kernel_rfl) (by kernel_rfl) (fun _ _ _ h => h) (by rfl) ?_ (by assumption) ?_
        · intro w hSw
          go_simp
        simp only [Act.put, List.setIfInBounds_toArray, List.set_cons_zero, List.set_cons_succ]
        refine take_call (i := 8) rfl (by kernel_rfl) (fun K2 hK => ?_)
        have c0 := OL.out.cell HLT.out
        have c1 := OL.out.frozen i
        have c2 := OL.out.lt
        go_simp
        have RW2 := Lib.hid (nrow_set RW.out (p := ⟨gl, i, none⟩) (cyrow_ne RW.out OL.out (by decide)) (.slice c x.n q))
        obtain ⟨W8, hW8⟩ : ∃ W8, W8 = W7.setCell ⟨gl, i, none⟩ (.slice c x.n q) := ⟨_, rfl⟩
        rw [← hW8] at NX RW2 ⊢
        clear hW8 c0 c1 c2
        refine hK.out _ _ RW2.out (fun hHeld => ?_)
        clear hK hHeld hHeld2 RW RW2 OL
        refine wpAnyH_done (by kernel_rfl) ?_ _
        go_wp2_with fail
        go_roundw
        case rel => exact ⟨i + 1, by have := HLT.out; omega, by go_num, ⟨HR.out.more HC.out, _, _, _, _, _, _, _, NX.out⟩⟩
        case measure => have := HLT.out; simp [intOf]; omega
      · have hcd : x.cd ≠ 0 := by rw [HX.out, Cy.ans_cd]; exact hc
        have HE := Lib.hid (Cy.runs_stop HLT.out hc)
        have hbn : (x.cd != 0) = true := by simp; exact hcd
        have B2 : Hid (Below w.heap.size w Z) := U.out.old.trans (BZ.out.mono U.out.old.size)
        clear hc hcd
        go_wp2_with fail
        go_ret
        rw [HE.out, ← HZ.out]
        exact ⟨RowsEnd.nil, B2.out⟩
    · obtain rfl : i = n := by omega
      clear hi2
      have HE := Lib.hid (Cy.rn_ok HBG.out HR.out)
      go_wp2_with fail
      go_ret
      rw [HE.out]
      exact ⟨U.out.rs.ss U.out.lo.2 U.out.ol (Nat.le_refl _) U.out.oF, U.out.old⟩
end Go.Proofs.YtgkdnpnnmmpnmaaGreatDoor
namespace Go.Proofs.YtgkdnpnnmmpnmaaGreatDoor
open Go.RowKit Go.Deep

theorem rw_ne {B n m g : Nat} {T S : TypeId} {v : Value} {xs : List Value} {F : Nat → Value} {W : World} (h : W.ownsRow B T 1 v n xs) (hr : W.rowIs g S m F) (hT : T ≠ S) : v.ownBlock ≠ some g := by
  intro e
  rcases h.2 with ⟨rfl, _⟩ | ⟨g', cap, cur, rfl, _, e3, _⟩
  · cases e
  · cases e
    obtain ⟨c, q, _⟩ := hr
    rw [e3] at q
    simp at q
    exact hT q.2
/-- A list of numbers stays, whatever becomes of the box and of the list of rows. -/
theorem cyo_stay {B D N c n m gs : Nat} {S : TypeId} {a : Option Addr} {f : Nat → Int} {v : Value} {xs : List Value} {G : Nat → Value} {Z Z2 : World} (h : CyO 2 B N a c f Z) (bs : Z.rowIs gs S m G) (hS : 2 ≠ S) (ow : Z.ownsRow D 24 1 v n xs) (KP : ∀ j, j < Z.heap.size → j ≠ gs → v.ownBlock ≠ some j → Z2.heap[j]? = Z.heap[j]?) : CyO 2 B N a c f Z2 := by
  rcases h with h | ⟨g, e, h1, h2⟩
  · exact Or.inl h
  · refine Or.inr ⟨g, e, h1, h2.block (KP g h2.lt (Ne.symm (isblk_ne h2 bs hS)) ?_)⟩
    obtain ⟨M, F, _, r, _⟩ := h2
    exact rw_ne ow r (by decide)
/-- What stands ahead of a cycle of a run. -/
structure CyT (p : Pg.Prog) (la : Option Addr) (lk : Nat) (fa : Option Addr) (fk : Nat) (wa : Option Addr) (wk : Nat) (LN : Nat → Nat) (L : Nat → Nat → Int) (gs i : Nat) (a : Option Addr) (k : Nat) (b : Option Addr) (l : Nat) (aj : Nat → Option Addr) (cj : Nat → Nat) (v : Value) (w W : World) : Prop where
  bp : W.rowIs w.heap.size 27 3 (rowN (pgL p la lk fa fk wa wk))
  bs : W.rowIs gs 33 3 (rowN (lgL (Cy.st p LN L i) a k b l))
  lg : LgO 2 w.heap.size (Cy.st p LN L i).n k (Cy.st p LN L i).m l a b (Cy.st p LN L i).T (Cy.st p LN L i).C W
  ow : W.ownsRow w.heap.size 24 1 v i (rwV p.on aj cj i)
  lo : w.heap.size ≤ gs
  rs : RowsO w.heap.size p.on i aj cj (Cy.ro p LN L) W
  old : Below w.heap.size w W
section
variable {p : Pg.Prog} {la : Option Addr} {lk : Nat} {fa : Option Addr} {fk : Nat} {wa : Option Addr} {wk : Nat} {LN : Nat → Nat} {L : Nat → Nat → Int} {gs i : Nat} {a : Option Addr} {k : Nat} {b : Option Addr} {l : Nat} {aj : Nat → Option Addr} {cj : Nat → Nat} {v : Value} {w W W' : World}
theorem CyT.below (h : CyT p la lk fa fk wa wk LN L gs i a k b l aj cj v w W) (hb : Below W.heap.size W W') : CyT p la lk fa fk wa wk LN L gs i a k b l aj cj v w W' :=
  ⟨nrow_below h.bp hb, nrow_below h.bs hb, h.lg.below hb, h.ow.kept (row := none) ⟨hb.os, hb.tape, hb.output, hb.size, fun k hk _ => hb.block k hk⟩ (by cases v.ownBlock <;> simp), h.lo, h.rs.below hb, h.old.trans (hb.mono h.old.size)⟩
/-- Behind the cycle and the append. -/
theorem CyT.next {x : Cy.Ans} {a' b' c : Option Addr} {k' l' q D : Nat} {v2 : Value} {o : Obj} {Z Z2 : World} (h : CyT p la lk fa fk wa wk LN L gs i a k b l aj cj v w W) (hb : Below W.heap.size W Z) (hx : x = Cy.ans p (Cy.st p LN L i) (LN i) (L i)) (hn : x.n = p.on) (hD : W.heap.size ≤ D)
    (ho : CoO 2 D x.s.n k' x.s.m l' x.n q a' b' c x.s.T x.s.C x.O Z) (hgrow : ((((Z.setCell ⟨gs, 0, none⟩ (.slice a' x.s.n k')).setCell ⟨gs, 1, none⟩ (.slice b' x.s.m l')).setCell ⟨gs, 2, none⟩ (.bool x.s.fl)).alloc o).grownBy Z2 v.ownBlock)
    (hown : Z2.ownsRow w.heap.size 24 1 v2 (i + 1) (rwV p.on (fun j => if j = i then c else aj j) (fun j => if j = i then q else cj j) (i + 1))) :
    CyT p la lk fa fk wa wk LN L gs (i + 1) a' k' b' l' (fun j => if j = i then c else aj j) (fun j => if j = i then q else cj j) v2 w Z2 := by
  have hw : w.heap.size ≤ W.heap.size := h.old.size
  have h2 := h.below hb
  have hs : Cy.st p LN L (i + 1) = x.s := by rw [hx]; rfl
  have hco : x.O = Cy.ro p LN L i := by rw [hx]; rfl
  have n1 : gs ≠ w.heap.size := cyrow_ne h.bs h.bp (by decide)
  obtain ⟨W7, hW7⟩ : ∃ W7, W7 = ((Z.setCell ⟨gs, 0, none⟩ (.slice a' x.s.n k')).setCell ⟨gs, 1, none⟩ (.slice b' x.s.m l')).setCell ⟨gs, 2, none⟩ (.bool x.s.fl) := ⟨_, rfl⟩
  have s7 : W7.heap.size = Z.heap.size := by rw [hW7]; simp
  have kb : ∀ j, j ≠ gs → W7.heap[j]? = Z.heap[j]? := fun j e1 => by
    rw [hW7]
    exact (Below.heap_setCell _ _ _ _ e1).trans ((Below.heap_setCell _ _ _ _ e1).trans (Below.heap_setCell _ _ _ _ e1))
  have b7 : W7.rowIs gs 33 3 (rowN [.slice a' x.s.n k', .slice b' x.s.m l', .bool x.s.fl]) := by rw [hW7]; exact rowN_put (rowN_put (rowN_put h2.bs 0 (.slice a' x.s.n k') (by simp)) 1 (.slice b' x.s.m l') (by simp)) 2 (.bool x.s.fl) (by simp)
  have o7 : Below w.heap.size w W7 := by rw [hW7]; exact ((h2.old.setCell (p := ⟨gs, 0, none⟩) h.lo _).setCell (p := ⟨gs, 1, none⟩) h.lo _).setCell (p := ⟨gs, 2, none⟩) h.lo _
  rw [← hW7] at hgrow
  clear hW7
  have KG : ∀ j, j < W7.heap.size → v.ownBlock ≠ some j → Z2.heap[j]? = W7.heap[j]? := fun j hj e => (hgrow.block j (by simp; omega) (fun q => e q.symm)).trans ((nbel_alloc W7 o).block j hj)
  have KP : ∀ j, j < Z.heap.size → j ≠ gs → v.ownBlock ≠ some j → Z2.heap[j]? = Z.heap[j]? := fun j hj e1 e2 => (KG j (by omega) e2).trans (kb j e1)
  have row := h.rs.more (a := c) (c := q) hD hb (Nat.le_trans hw hD) (by rw [← hco, ← hn]; exact ho.o)
  refine ⟨h2.bp.of_block (KP _ h2.bp.lt (Ne.symm n1) (rw_ne h2.ow h2.bp (by decide))), ?_, ?_, hown, h.lo, ⟨fun j hj => cyo_stay (row.o j hj) h2.bs (by decide) h2.ow KP, row.ne⟩, cy_grown (o7.alloc (by rw [s7]; exact Nat.le_trans hw hb.size) o) (by simp; have := hb.size; omega) hgrow (fun k e => (h.ow.lt k e).1)⟩
  · rw [hs]
    exact b7.of_block (KG gs b7.lt (rw_ne h2.ow h2.bs (by decide)))
  · rw [hs]
    exact ⟨cyo_stay (ho.s.low (Nat.le_trans hw hD)).t h2.bs (by decide) h2.ow KP, cyo_stay (ho.s.low (Nat.le_trans hw hD)).c h2.bs (by decide) h2.ow KP, ho.s.ne⟩
end
set_option maxRecDepth 100000 in
set_option maxHeartbeats 8000000 in
theorem specLRun_any (p : Pg.Prog) (la : Option Addr) (lk : Nat) (fa : Option Addr) (fk : Nat) (wa : Option Addr) (wk : Nat) (g n ca : Nat) (LN : Nat → Nat) (L : Nat → Nat → Int) (w : World) (h : PgAt p la fa wa w) (hs : PgSmall p) (h2 : TSS g n n LN L w) (hn : n ≤ 1048576) (hl : ∀ i, i < n → LN i ≤ 1048576) :
    Calls Tryz.prog 20 #[pgV p la lk fa fk wa wk, .slice (some ⟨g, 0, none⟩) n ca] w fun e w' => RowsEnd w.heap.size (Cy.rn p LN L n) p.on (Cy.ro p LN L) e w' ∧ Below w.heap.size w w' := by
  obtain ⟨W, hW⟩ : ∃ W, W = (w.alloc (.cells #[.slice la p.bn lk, .slice fa p.on fk, .slice wa p.nn wk] 27)).alloc (.cells #[] 24) := ⟨_, rfl⟩
  have R0 : Hid (W.rowIs w.heap.size 27 3 (rowN (pgL p la lk fa fk wa wk))) := by show World.rowIs _ _ _ _ _; rw [hW]; exact nrow_below (rowN_alloc w (pgL p la lk fa fk wa wk) _) (nbel_alloc _ _)
  have E0 : Hid (W.rowIs (w.heap.size + 1) 24 0 (rowN [])) := by show World.rowIs _ _ _ _ _; rw [hW]; exact rowN_alloc' (by simp) [] _
  have OW0 : Hid (W.ownsRow w.heap.size 24 1 (.slice (some ⟨w.heap.size + 1, 0, none⟩) 0 0) 0 []) := by
    have := World.ownsRow_made (base := w.heap.size) (e := 24) (size := 1) (w.alloc (.cells #[.slice la p.bn lk, .slice fa p.on fk, .slice wa p.nn wk] 27)) #[] 0 (by simp) (by decide) (by simp)
    show World.ownsRow _ _ _ _ _ _ _
    rw [hW]
    simpa using this
  have B0 : Hid (Below w.heap.size w W) := by show Below _ _ _; rw [hW]; exact (nbel_alloc _ _).alloc (by simp) _
  have H := Lib.hid h
  have HS := Lib.hid hs
  have H2 := Lib.hid h2
  have HL := Lib.hid hl
  have HW := Lib.hid hW
  clear h hs hW h2 hl
  obtain ⟨⟨x0, x1, x2⟩, _⟩ := rowN3 R0.out
  rw [HW.out] at x0 x1 x2
  go_enter Tryz.func20, Tryz.ntmps20
  go_wp2_with fail
  rw [← HW.out]
  clear HW x0 x1 x2
  refine (specPRight_any p la lk fa fk wa wk W (H.out.below B0.out) HS.out).mono ?_
  rintro e w0 ⟨rfl, hb⟩
  replace R0 := Lib.hid (nrow_below R0.out hb)
  replace E0 := Lib.hid (nrow_below E0.out hb)
  replace OW0 : Hid (w0.ownsRow w.heap.size 24 1 (.slice (some ⟨w.heap.size + 1, 0, none⟩) 0 0) 0 []) := OW0.out.kept (row := none) ⟨hb.os, hb.tape, hb.output, hb.size, fun k hk _ => hb.block k hk⟩ (by simp [Value.ownBlock])
  replace B0 : Hid (Below w.heap.size w w0) := B0.out.trans (hb.mono B0.out.size)
  clear hb
  by_cases k : Pg.Right p
  case neg =>
    rw [dB_ff k]
    have HE := Lib.hid (Cy.rn_wrong (LN := LN) (L := L) (n := n) k)
    clear k
    go_wp2_with fail
    go_ret
    rw [HE.out]
    exact ⟨RowsEnd.empty (by omega) E0.out, B0.out⟩
  rw [dB_tt k]
  have HRP := Lib.hid k
  clear k
  by_cases big : 100 < n
  · have bigz : (100 : Int) < (n : Int) := by omega
    have HE := Lib.hid (Cy.rn_big (p := p) (LN := LN) (L := L) big)
    clear big
    go_wp2_with fail
    go_ret
    rw [HE.out]
    exact ⟨RowsEnd.empty (by omega) E0.out, B0.out⟩
  have HBG := Lib.hid big
  have bigz : ¬ (100 : Int) < (n : Int) := by omega
  clear big
  obtain ⟨⟨x0, x1, x2⟩, _⟩ := rowN3 R0.out
  go_wp2_with fail
  clear x0 x1 x2
  refine (specStart_any p la lk fa fk wa wk w0 (H.out.below B0.out) HS.out).mono ?_
  rintro e w1 ⟨⟨a, k, b, l, rfl, hO⟩, hb⟩
  have R1 := Lib.hid (nrow_below R0.out hb)
  have B1 : Hid (Below w.heap.size w w1) := B0.out.trans (hb.mono B0.out.size)
  have O1 := Lib.hid (hO.low B0.out.size)
  have OW1 : Hid (w1.ownsRow w.heap.size 24 1 (.slice (some ⟨w.heap.size + 1, 0, none⟩) 0 0) 0 []) := OW0.out.kept (row := none) ⟨hb.os, hb.tape, hb.output, hb.size, fun k hk _ => hb.block k hk⟩ (by simp [Value.ownBlock])
  clear hb hO R0 B0 E0 OW0
  go_wp2_with fail
  obtain ⟨gs, hgs⟩ : ∃ gs, gs = w1.heap.size := ⟨_, rfl⟩
  obtain ⟨V1, hV1⟩ : ∃ V1, V1 = w1.alloc (.cells #[.slice a (Cy.start p).n k, .slice b (Cy.start p).m l, .bool (Cy.start p).fl] 33) := ⟨_, rfl⟩
  have bV1 : Below w1.heap.size w1 V1 := by rw [hV1]; exact nbel_alloc _ _
  have rV1 : V1.rowIs gs 33 3 (rowN (lgL (Cy.start p) a k b l)) := by rw [hV1, hgs]; exact rowN_alloc w1 (lgL (Cy.start p) a k b l) _
  have U0 : Hid (CyT p la lk fa fk wa wk LN L gs 0 a k b l (fun _ => none) (fun _ => 0) (.slice (some ⟨w.heap.size + 1, 0, none⟩) 0 0) w V1) :=
    ⟨nrow_below R1.out bV1, rV1, O1.out.below bV1, OW1.out.kept (row := none) ⟨bV1.os, bV1.tape, bV1.output, bV1.size, fun k hk _ => bV1.block k hk⟩ (by simp [Value.ownBlock]), by rw [hgs]; exact B1.out.size, RowsO.none, B1.out.trans (bV1.mono B1.out.size)⟩
  rw [← hV1, ← hgs]
  clear hV1 hgs bV1 rV1 R1 B1 O1 OW1
  go_loopw [5, 7] (fun vv iv wr => ∃ (i : Nat) (v : Value), i ≤ n ∧ v = vv ∧ iv = .int .i64 i ∧ Hid (Cy.Runs p LN L i ∧ ∃ a k b l aj cj, CyT p la lk fa fk wa wk LN L gs i a k b l aj cj v w wr)) (fun _ iv _ => n - (intOf iv).toNat)
  case atStart => exact ⟨0, _, Nat.zero_le _, rfl, rfl, ⟨Cy.runs0, _, _, _, _, _, _, U0.out⟩⟩
  case round =>
    obtain ⟨i, v, hi2, rfl, rfl, hX⟩ := hrel
    clear U0
    obtain ⟨hR, a, k, b, l, aj, cj, hU⟩ := hX.out
    have HR := Lib.hid hR
    have U := Lib.hid hU
    clear hX hR hU
    by_cases hlt : i < n
    · have hltz : (i : Int) < (n : Int) := by omega
      have HLT := Lib.hid hlt
      obtain ⟨lb, lc, hlb⟩ := (TSS.one (H2.out.below U.out.old) hlt)
      have LB := Lib.hid (And.intro lc hlb)
      clear hlb hlt lc
      obtain ⟨xx, hx⟩ : ∃ xx, xx = Cy.ans p (Cy.st p LN L i) (LN i) (L i) := ⟨_, rfl⟩
      have HX := Lib.hid hx
      clear hx
      go_wp2_with fail
      go_cut [8] (fun q Wq => ∃ xb aN kN bN lN cN qN, q = .pointer (some ⟨xb, 0, none⟩) ∧ Hid (Below wr.heap.size wr Wq ∧ Wq.rowIs xb 38 5 (rowN (coL xx aN kN bN lN cN qN)) ∧ (CoO 2 wr.heap.size xx.s.n kN xx.s.m lN xx.n qN aN bN cN xx.s.T xx.s.C xx.O Wq) ∧ wr.heap.size ≤ xb))
      case first =>
        refine wp_region_held_drew (S := fun V => Below wr.heap.size wr V) (by kernel_rfl) (Below.refl _ _).drew (fun hHeld => ?_)
        obtain ⟨Z, hZ⟩ : ∃ Z, Z = wr.drew := ⟨_, rfl⟩
        rw [← hZ] at hHeld ⊢
        clear hZ
        refine take_do (i := 0) (v := (pgV p la lk fa fk wa wk)) rfl (by kernel_rfl) (by kernel_rfl) (by kernel_rfl) (fun _ _ _ h => h) (by rfl) ?_ (by assumption) ?_
        · intro w hSw
          obtain ⟨⟨r0, r1, r2⟩, _⟩ := rowN3 (nrow_below U.out.bp hSw)
          go_simp
        simp only [Act.put, List.setIfInBounds_toArray, List.set_cons_zero, List.set_cons_succ]
        refine take_do (i := 1) (v := (lgV (Cy.st p LN L i) a k b l)) rfl (by kernel_rfl) (by kernel_rfl) (by kernel_rfl) (fun _ _ _ h => h) (by rfl) ?_ (by assumption) ?_
        · intro w hSw
          obtain ⟨⟨r0, r1, r2⟩, _⟩ := rowN3 (nrow_below U.out.bs hSw)
          go_simp
        simp only [Act.put, List.setIfInBounds_toArray, List.set_cons_zero, List.set_cons_succ]
        refine take_do (i := 2) (v := (.slice (some ⟨g, 0, none⟩) n ca)) rfl (by kernel_rfl) (by kernel_rfl) (by kernel_rfl) (fun _ _ _ h => h) (by rfl) ?_ (by assumption) ?_
        · intro w hSw
          go_simp
        simp only [Act.put, List.setIfInBounds_toArray, List.set_cons_zero, List.set_cons_succ]
        refine take_do (i := 3) (v := (.int .i64 i)) rfl (by kernel_rfl) (by kernel_rfl) (by kernel_rfl) (fun _ _ _ h => h) (by rfl) ?_ (by assumption) ?_
        · intro w hSw
          go_simp
        simp only [Act.put, List.setIfInBounds_toArray, List.set_cons_zero, List.set_cons_succ]
        refine take_do (i := 4) (v := (.pointer (some ⟨g, i, none⟩))) rfl (by kernel_rfl) (by kernel_rfl) (by kernel_rfl) (fun _ _ _ h => h) (by rfl) ?_ (by assumption) ?_
        · intro w hSw
          go_simp
        simp only [Act.put, List.setIfInBounds_toArray, List.set_cons_zero, List.set_cons_succ]
        refine take_do (i := 5) (v := (.slice (some ⟨lb, 0, none⟩) (LN i) (LN i))) rfl (by kernel_rfl) (by kernel_rfl) (by kernel_rfl) (fun _ _ _ h => h) (by rfl) ?_ (by assumption) ?_
        · intro w hSw
          have r0 := (hSw.cell (World.block_lt_of_cell? _ _ LB.out.1)).trans LB.out.1
          go_simp
        simp only [Act.put, List.setIfInBounds_toArray, List.set_cons_zero, List.set_cons_succ]
        refine wpAnyH_ready (rs := [6, 7]) (by kernel_rfl) (by simp) (AllReadyH.cons (at_drop (i := 6) rfl) (fun K2 hK => ?_) (AllReadyH.cons (at_drop (i := 7) rfl) (fun K2 hK => ?_) (AllReadyH.nil)))
        · go_simp
          refine (specCycle_any p la lk fa fk wa wk (Cy.st p LN L i) a k b l (some ⟨lb, 0, none⟩) (LN i) (LN i) (L i) _ (H.out.below (U.out.old.trans (hHeld.mono U.out.old.size))) HS.out (U.out.lg.ls.below hHeld) (run_small HS.out i) (LB.out.2.below hHeld).at_ (HL.out i HLT.out)).mono ?_
          rintro e Z1 ⟨hE, hb⟩
          rw [← HX.out] at hE
          obtain ⟨aN, kN, bN, lN, cN, qN, rfl, hO⟩ := hE
          have HOW := Lib.hid (hO.low hHeld.size)
          clear hO
          go_wp2_with fail
          refine hK.out _ _ (hHeld.trans (hb.mono hHeld.size)) (fun hHeld2 => ?_)
          clear hK hHeld hb
          have hHeld := hHeld2
          clear hHeld2
          refine wpAnyH_ready (rs := [7]) (by kernel_rfl) (by simp) (AllReadyH.cons (at_drop (i := 7) rfl) (fun K2 hK => ?_) (AllReadyH.nil))
          obtain ⟨Z2, hZ2⟩ : ∃ Z2, Z2 = Z1.alloc (.cells #[.slice none 0 0, .slice none 0 0, .bool false, .slice none 0 0, .int .i64 0] 38) := ⟨_, rfl⟩
          have hb : Below Z1.heap.size Z1 Z2 := by rw [hZ2]; exact nbel_alloc _ _
          have HV : Hid (Z2.rowIs Z1.heap.size 38 5 (rowN [.slice none 0 0, .slice none 0 0, .bool false, .slice none 0 0, .int .i64 0])) := by show World.rowIs _ _ _ _ _; rw [hZ2]; exact rowN_alloc _ _ _
          obtain ⟨xb, hxb⟩ : ∃ xb, xb = Z1.heap.size := ⟨_, rfl⟩
          rw [← hxb] at HV
          have HXL : Hid (wr.heap.size ≤ xb) := by show _ ≤ _; rw [hxb]; exact hHeld.size
          have HOW2 := Lib.hid (HOW.out.below hb)
          clear HOW
          have HOW := HOW2
          clear HOW2
          go_simp
          rw [← hZ2, ← hxb]
          clear hZ2
          refine hK.out _ _ (hHeld.trans (hb.mono hHeld.size)) (fun hHeld2 => ?_)
          clear hK hHeld hxb hb
          have hHeld := hHeld2
          clear hHeld2
          have zr := cyput5 HV.out rfl (.slice aN xx.s.n kN) (.slice bN xx.s.m lN) (.bool xx.s.fl) (.slice cN xx.n qN) (.int .i64 xx.cd)
          have zk := fun (k : Nat) (hk : k ≠ xb) => cyblk5 (W := Z2) hk (.slice aN xx.s.n kN) (.slice bN xx.s.m lN) (.bool xx.s.fl) (.slice cN xx.n qN) (.int .i64 xx.cd)
          have zb := cybel5 (g := xb) hHeld HXL.out (.slice aN xx.s.n kN) (.slice bN xx.s.m lN) (.bool xx.s.fl) (.slice cN xx.n qN) (.int .i64 xx.cd)
          obtain ⟨⟨o0, o1, o2, o3, o4⟩, z0, z1, z2, z3, z4⟩ := rowN5 HV.out
          have hol := HV.out.lt
          refine take_call (i := 8) rfl (by kernel_rfl) (fun K2 hK => ?_)
          go_simp
          clear o0 o1 o2 o3 o4 z0 z1 z2 z3 z4
          have zo : CoO 2 wr.heap.size xx.s.n kN xx.s.m lN xx.n qN aN bN cN xx.s.T xx.s.C xx.O _ := HOW.out.keep (fun j e _ _ => zk j (fun e2 => by rw [e2] at e; exact HOW.out.neR HV.out (by decide) e))
          generalize (((((Z2).setCell ⟨xb, 0, none⟩ (.slice aN xx.s.n kN)).setCell ⟨xb, 1, none⟩ (.slice bN xx.s.m lN)).setCell ⟨xb, 2, none⟩ (.bool xx.s.fl)).setCell ⟨xb, 3, none⟩ (.slice cN xx.n qN)).setCell ⟨xb, 4, none⟩ (.int .i64 xx.cd) = Y at zr zk zb zo ⊢
          refine hK.out _ _ zb (fun hHeld2 => ?_)
          clear hK hHeld hHeld2
          refine wpAnyH_done (by kernel_rfl) ?_ _
          have HPR : Hid (Below wr.heap.size wr Y ∧ Y.rowIs xb 38 5 (rowN (coL xx aN kN bN lN cN qN)) ∧ (CoO 2 wr.heap.size xx.s.n kN xx.s.m lN xx.n qN aN bN cN xx.s.T xx.s.C xx.O Y) ∧ wr.heap.size ≤ xb) := ⟨zb, zr, zo, HXL.out⟩
          clear zo
          clear zr zk zb
          go_wp2_with fail
          go_meet
          case rel => exact ⟨xb, aN, kN, bN, lN, cN, qN, rfl, HPR⟩
        · obtain ⟨Z1, hZ1⟩ : ∃ Z1, Z1 = Z.alloc (.cells #[.slice none 0 0, .slice none 0 0, .bool false, .slice none 0 0, .int .i64 0] 38) := ⟨_, rfl⟩
          have hb : Below Z.heap.size Z Z1 := by rw [hZ1]; exact nbel_alloc _ _
          have HV : Hid (Z1.rowIs Z.heap.size 38 5 (rowN [.slice none 0 0, .slice none 0 0, .bool false, .slice none 0 0, .int .i64 0])) := by show World.rowIs _ _ _ _ _; rw [hZ1]; exact rowN_alloc _ _ _
          obtain ⟨xb, hxb⟩ : ∃ xb, xb = Z.heap.size := ⟨_, rfl⟩
          rw [← hxb] at HV
          have HXL : Hid (wr.heap.size ≤ xb) := by show _ ≤ _; rw [hxb]; exact hHeld.size
          go_simp
          rw [← hZ1, ← hxb]
          clear hZ1
          refine hK.out _ _ (hHeld.trans (hb.mono hHeld.size)) (fun hHeld2 => ?_)
          clear hK hHeld hxb hb
          have hHeld := hHeld2
          clear hHeld2
          refine wpAnyH_ready (rs := [6]) (by kernel_rfl) (by simp) (AllReadyH.cons (at_drop (i := 6) rfl) (fun K2 hK => ?_) (AllReadyH.nil))
          go_simp
          refine (specCycle_any p la lk fa fk wa wk (Cy.st p LN L i) a k b l (some ⟨lb, 0, none⟩) (LN i) (LN i) (L i) _ (H.out.below (U.out.old.trans (hHeld.mono U.out.old.size))) HS.out (U.out.lg.ls.below hHeld) (run_small HS.out i) (LB.out.2.below hHeld).at_ (HL.out i HLT.out)).mono ?_
          rintro e Z2 ⟨hE, hb⟩
          rw [← HX.out] at hE
          obtain ⟨aN, kN, bN, lN, cN, qN, rfl, hO⟩ := hE
          have HOW := Lib.hid (hO.low hHeld.size)
          clear hO
          have HV2 := Lib.hid (nrow_below HV.out hb)
          clear HV
          have HV := HV2
          clear HV2
          go_wp2_with fail
          refine hK.out _ _ (hHeld.trans (hb.mono hHeld.size)) (fun hHeld2 => ?_)
          clear hK hHeld hb
          have hHeld := hHeld2
          clear hHeld2
          have zr := cyput5 HV.out rfl (.slice aN xx.s.n kN) (.slice bN xx.s.m lN) (.bool xx.s.fl) (.slice cN xx.n qN) (.int .i64 xx.cd)
          have zk := fun (k : Nat) (hk : k ≠ xb) => cyblk5 (W := Z2) hk (.slice aN xx.s.n kN) (.slice bN xx.s.m lN) (.bool xx.s.fl) (.slice cN xx.n qN) (.int .i64 xx.cd)
          have zb := cybel5 (g := xb) hHeld HXL.out (.slice aN xx.s.n kN) (.slice bN xx.s.m lN) (.bool xx.s.fl) (.slice cN xx.n qN) (.int .i64 xx.cd)
          obtain ⟨⟨o0, o1, o2, o3, o4⟩, z0, z1, z2, z3, z4⟩ := rowN5 HV.out
          have hol := HV.out.lt
          refine take_call (i := 8) rfl (by kernel_rfl) (fun K2 hK => ?_)
          go_simp
          clear o0 o1 o2 o3 o4 z0 z1 z2 z3 z4
          have zo : CoO 2 wr.heap.size xx.s.n kN xx.s.m lN xx.n qN aN bN cN xx.s.T xx.s.C xx.O _ := HOW.out.keep (fun j e _ _ => zk j (fun e2 => by rw [e2] at e; exact HOW.out.neR HV.out (by decide) e))
          generalize (((((Z2).setCell ⟨xb, 0, none⟩ (.slice aN xx.s.n kN)).setCell ⟨xb, 1, none⟩ (.slice bN xx.s.m lN)).setCell ⟨xb, 2, none⟩ (.bool xx.s.fl)).setCell ⟨xb, 3, none⟩ (.slice cN xx.n qN)).setCell ⟨xb, 4, none⟩ (.int .i64 xx.cd) = Y at zr zk zb zo ⊢
          refine hK.out _ _ zb (fun hHeld2 => ?_)
          clear hK hHeld hHeld2
          refine wpAnyH_done (by kernel_rfl) ?_ _
          have HPR : Hid (Below wr.heap.size wr Y ∧ Y.rowIs xb 38 5 (rowN (coL xx aN kN bN lN cN qN)) ∧ (CoO 2 wr.heap.size xx.s.n kN xx.s.m lN xx.n qN aN bN cN xx.s.T xx.s.C xx.O Y) ∧ wr.heap.size ≤ xb) := ⟨zb, zr, zo, HXL.out⟩
          clear zo
          clear zr zk zb
          go_wp2_with fail
          go_meet
          case rel => exact ⟨xb, aN, kN, bN, lN, cN, qN, rfl, HPR⟩
      case rest =>
        obtain ⟨ob, a', k', b', l', c, q, rfl, hPR⟩ := hcut
        obtain ⟨Z, hZ⟩ : ∃ Z, Z = wc := ⟨_, rfl⟩
        rw [← hZ] at hPR ⊢
        clear hZ
        have RZ := Lib.hid hPR.out.2.1
        have OZ := Lib.hid hPR.out.2.2.1
        have BZ := Lib.hid hPR.out.1
        clear hPR
        obtain ⟨⟨o0, o1, o2, o3, o4⟩, _⟩ := rowN5 RZ.out
        by_cases hc : Cy.code p (Cy.st p LN L i) (LN i) (L i) = 0
        · have HC := Lib.hid hc
          have hcd : xx.cd = 0 := by rw [HX.out, Cy.ans_cd]; exact hc
          have HN : Hid (xx.n = p.on) := by show _ = _; rw [HX.out]; exact Cy.ans_n hc
          rw [hcd] at o4
          clear hc hcd
          have UZ := Lib.hid (U.out.below BZ.out)
          obtain ⟨⟨z0, z1, z2⟩, f0, f1, f2⟩ := rowN3 UZ.out.bs
          have hrl := UZ.out.bs.lt
          have hne := cyrow_ne RZ.out UZ.out.bs (by decide)
          go_upto_region 12 with fail
          have RW := Lib.hid (nrow_set (nrow_set (nrow_set RZ.out (p := ⟨gs, 0, none⟩) hne (.slice a' xx.s.n k')) (p := ⟨gs, 1, none⟩) hne (.slice b' xx.s.m l')) (p := ⟨gs, 2, none⟩) hne (.bool xx.s.fl))
          have hw7 : (((Z.setCell ⟨gs, 0, none⟩ (.slice a' xx.s.n k')).setCell ⟨gs, 1, none⟩ (.slice b' xx.s.m l')).setCell ⟨gs, 2, none⟩ (.bool xx.s.fl)).heap.size = Z.heap.size := by simp
          have hpd : Hid (∀ (q : Nat), q < Z.heap.size → q ≠ gs → (((Z.setCell ⟨gs, 0, none⟩ (.slice a' xx.s.n k')).setCell ⟨gs, 1, none⟩ (.slice b' xx.s.m l')).setCell ⟨gs, 2, none⟩ (.bool xx.s.fl)).heap[q]? = Z.heap[q]?) := fun q _ e => (Below.heap_setCell _ _ _ _ e).trans ((Below.heap_setCell _ _ _ _ e).trans (Below.heap_setCell _ _ _ _ e))
          have NXT := Lib.hid (fun (o : Obj) (v2 : Value) (Z2 : World) (hg : ((((Z.setCell ⟨gs, 0, none⟩ (.slice a' xx.s.n k')).setCell ⟨gs, 1, none⟩ (.slice b' xx.s.m l')).setCell ⟨gs, 2, none⟩ (.bool xx.s.fl)).alloc o).grownBy Z2 v.ownBlock) hown => U.out.next (v2 := v2) BZ.out HX.out HN.out (Nat.le_refl _) OZ.out hg hown)
          have OW7 : Hid ((((Z.setCell ⟨gs, 0, none⟩ (.slice a' xx.s.n k')).setCell ⟨gs, 1, none⟩ (.slice b' xx.s.m l')).setCell ⟨gs, 2, none⟩ (.bool xx.s.fl)).ownsRow w.heap.size 24 1 v i (rwV p.on aj cj i)) := UZ.out.ow.kept (row := some gs) ⟨rfl, rfl, rfl, by simp, fun k hk e => (Below.heap_setCell _ _ _ _ (fun h => e (by rw [h]))).trans ((Below.heap_setCell _ _ _ _ (fun h => e (by rw [h]))).trans (Below.heap_setCell _ _ _ _ (fun h => e (by rw [h]))))⟩ (Or.inr (rw_ne UZ.out.ow UZ.out.bs (by decide)))
          have HSZ : Hid (w.heap.size ≤ Z.heap.size) := UZ.out.old.size
          obtain ⟨W7, hW7⟩ : ∃ W7, W7 = ((Z.setCell ⟨gs, 0, none⟩ (.slice a' xx.s.n k')).setCell ⟨gs, 1, none⟩ (.slice b' xx.s.m l')).setCell ⟨gs, 2, none⟩ (.bool xx.s.fl) := ⟨_, rfl⟩
          rw [← hW7] at NXT OW7 RW hw7 ⊢
          have H7 := Lib.hid hw7
          clear hw7 hW7 z0 z1 z2 f0 f1 f2 hrl hne o0 o1 o2 o3 o4 hpd UZ RZ OZ
          obtain ⟨⟨o0, o1, o2, o3, o4⟩, _⟩ := rowN5 RW.out
          have hin : i ≤ 100 := by have := HLT.out; omega
          go_wp2_with (at_builtin; refine wpList_append_rw rfl _ _ rfl w.heap.size v p.on aj cj i c q rfl (OW7.out.alloc _) ⟨W7.heap.size, 0, none⟩ 1 rfl ?at1 ?at3 ?at5 ?_)
          case at1 => rw [← HN.out]; exact (rowN_alloc W7 [.slice c xx.n q] 24).cell (i := 0) (by simp)
          case at3 => omega
          case at5 => have := HSZ.out; have := H7.out; simp; omega
          intro v2 Z2 hown hgrow
          have NX := Lib.hid (NXT.out _ v2 Z2 hgrow hown)
          clear hown hgrow NXT OW7 RW o0 o1 o2 o3 o4 H7
          go_wp2_with fail
          go_roundw
          case rel => exact ⟨i + 1, _, by have := HLT.out; omega, rfl, by go_num, ⟨HR.out.more HC.out, _, _, _, _, _, _, NX.out⟩⟩
          case measure => have := HLT.out; simp [intOf]; omega
        · have hcd : xx.cd ≠ 0 := by rw [HX.out, Cy.ans_cd]; exact hc
          have HE := Lib.hid (Cy.runs_stop HLT.out hc)
          have hbn : (xx.cd != 0) = true := by simp; exact hcd
          have B2 : Hid (Below w.heap.size w Z) := U.out.old.trans (BZ.out.mono U.out.old.size)
          clear hc hcd o0 o1 o2 o3
          go_wp2_with fail
          go_ret
          rw [HE.out]
          exact ⟨RowsEnd.empty B2.out.size (rowN_alloc Z [] _), B2.out.alloc B2.out.size _⟩
    · obtain rfl : i = n := by omega
      clear hi2
      have HE := Lib.hid (Cy.rn_ok HBG.out HR.out)
      obtain ⟨a9, c9, rfl, hh⟩ := own_rows U.out.ow
      have HH := Lib.hid hh
      clear hh
      go_wp2_with fail
      go_ret
      rw [HE.out]
      refine ⟨?_, U.out.old⟩
      rcases HH.out with ⟨rfl, rfl, rfl⟩ | ⟨g9, M, F, rfl, h1, h2, h3, h4⟩
      · exact RowsEnd.nil
      · exact U.out.rs.ss h1 h3 h2 h4
end Go.Proofs.YtgkdnpnnmmpnmaaGreatDoor
namespace Go.Proofs.YtgkdnpnnmmpnmaaGreatDoor
open Go Go.ChangeShapes Go.WideShapes Go.ChangeAt Go.RowKit Go.Joins Go.Deep

set_option maxRecDepth 100000 in
theorem plists_in {H : Type} {enc : TypeId × Value → H} {W : World} {base fuel : Nat} {spare : Nat → Bool} {held : Bool} {x : DataW H × List MemPlace} {y : Value}
    (h : DataW.trod enc Tryz.prog W base spare held fuel 45 [y] = some x) : ∃ a len cap LN L, y = .slice a len cap ∧ LsIn a len LN L W ∧ len ≤ 9223372036854775807 ∧ ∀ i, i < len → LN i ≤ 9223372036854775807 := by
  rcases open_slice1 Tryz.underlying45 ncellsIsP h with ⟨hcs, _⟩ | ⟨ad, len, cap, m, n, V, D, Pl, hcs, _, hl, hm9, hmm, _, hcell⟩
  · simp at hcs
    subst hcs
    exact ⟨none, 0, 0, fun _ => 0, fun _ _ => 0, rfl, Or.inl rfl, by omega, fun i hi => absurd hi (by omega)⟩
  · simp at hcs
    subst hcs
    refine ⟨some ad, len, cap, ?_⟩
    have hlm : len ≤ m := by rw [hmm]; split <;> omega
    have hbig : len ≤ 9223372036854775807 := by unfold maxLen at hm9; omega
    by_cases h0 : len = 0
    · exact ⟨fun _ => 0, fun _ _ => 0, rfl, Or.inl h0, hbig, fun i hi => absurd hi (by omega)⟩
    obtain ⟨b, off, spot⟩ := ad
    have hsp : spot = none := by
      have q0 := (hcell 0 (by omega)).1
      have := World.cell?_spot q0
      simpa [Addr.add] using this
    subst hsp
    have each : ∀ i, ∃ z : Nat × (Nat → Int), i < len → (∃ ai ci, W.cell? ⟨b, off + i, none⟩ = some (.slice ai z.1 ci) ∧ IsIn ai z.1 z.2 W) ∧ z.1 ≤ 9223372036854775807 := by
      intro i
      by_cases hi : i < len
      · obtain ⟨h1, h2⟩ := hcell i (by omega)
        obtain ⟨ai, ni, ci, fi, e, h3, h4⟩ := pints_in h2
        refine ⟨(ni, fi), fun _ => ⟨⟨ai, ci, ?_, h3⟩, h4⟩⟩
        rw [← e, ← h1, Addr.add_lit]
      · exact ⟨(0, fun _ => 0), fun h => absurd h hi⟩
    obtain ⟨f, hf⟩ := Classical.axiomOfChoice each
    exact ⟨fun i => (f i).1, fun i => (f i).2, rfl, Or.inr ⟨b, off, rfl, fun i hi => (hf i hi).1⟩, hbig, fun i hi => (hf i hi).2⟩
end Go.Proofs.YtgkdnpnnmmpnmaaGreatDoor
namespace Go.Proofs.YtgkdnpnnmmpnmaaGreatDoor
open Go.RowKit Go.Deep

set_option maxRecDepth 100000 in
set_option maxHeartbeats 16000000 in
theorem logicRun_law (w : World) (n : Pg.Prog) (la : Option Addr) (lk : Nat) (fa : Option Addr) (fk : Nat) (wa : Option Addr) (wk : Nat) (hi0 : PgIn n la fa wa w) (hl0 : PgLens n) (ga : Option Addr) (gN gK : Nat) (LN : Nat → Nat) (L : Nat → Nat → Int) (hi1 : LsIn ga gN LN L w) (hl1 : gN ≤ 9223372036854775807) (hy1 : ∀ i, i < gN → LN i ≤ 9223372036854775807) (hg : Et w) :
    Calls Tryz.prog 7 #[pgV n la lk fa fk wa wk, .slice ga gN gK] w fun e w' => e = .returned (.bool true) ∧ Below w.heap.size w w' := by
  have HI0 := Lib.hid hi0
  have HI1 := Lib.hid hi1
  have HG := Lib.hid hg
  obtain ⟨W, hW⟩ : ∃ W, W = (w.alloc (.cells (#[.slice la n.bn lk, .slice fa n.on fk, .slice wa n.nn wk]) 56)) := ⟨_, rfl⟩
  have hOLD : Below w.heap.size w W := by rw [hW]; exact (nbel_alloc _ _)
  have hR0 : W.rowIs w.heap.size 56 3 (rowN (pgL n la lk fa fk wa wk)) := by rw [hW]; exact rowN_alloc w (pgL n la lk fa fk wa wk) _
  have R0 := Lib.hid (fact_row (lo := w.heap.size) hR0 (Nat.le_refl _))
  have OLD := Lib.hid hOLD
  have HW := Lib.hid hW
  clear hW hOLD hi0 hi1 hR0 hg
  go_enter Tryz.func7, Tryz.ntmps7
  obtain ⟨⟨x0, x1, x2⟩, _⟩ := rowN3 R0.out.p
  rw [HW.out] at x0 x1 x2
  go_wp2_with fail
  rw [← HW.out]
  clear HW
  clear x0 x1 x2
  refine (szProg_any n la lk fa fk wa wk _ (HI0.out.below OLD.out) hl0).mono ?_
  rintro e w1 ⟨⟨z, rfl, hz⟩, hb⟩
  replace OLD := Lib.hid (OLD.out.trans (hb.mono OLD.out.size))
  replace R0 := Lib.hid (R0.out.below hb)
  clear hb
  rcases hz with hz | ⟨hz, hs⟩
  · go_wp2_with fail
    go_ret
    exact ⟨rfl, OLD.out⟩
  have HS0 := Lib.hid hs
  obtain ⟨LL1, rfl⟩ : ∃ L : Nat, z = (L : Int) := ⟨z.toNat, by omega⟩
  have hLL1 : LL1 ≤ 1048576 := by omega
  have hzz1 : ¬ (LL1 : Int) < 0 := by omega
  clear hs hz
  go_wp2_with fail
  refine (lists_sz ga gN gK LN L LL1 _ (HI1.out.below OLD.out) hl1 hLL1 hy1).mono ?_
  rintro e w2 ⟨⟨z, rfl, hz⟩, hb⟩
  replace OLD := Lib.hid (OLD.out.trans (hb.mono OLD.out.size))
  replace R0 := Lib.hid (R0.out.below hb)
  clear hb
  rcases hz with hz | ⟨hz, hs⟩
  · go_wp2_with fail
    go_ret
    exact ⟨rfl, OLD.out⟩
  have HS1 := Lib.hid hs
  obtain ⟨LL2, rfl⟩ : ∃ L : Nat, z = (L : Int) := ⟨z.toNat, by omega⟩
  have hLL2 : LL2 ≤ 1048576 := by omega
  have hzz2 : ¬ (LL2 : Int) < 0 := by omega
  clear hs hz
  obtain ⟨xx, hX⟩ : ∃ xx, xx = Cy.rn n LN L gN := ⟨_, rfl⟩
  have HX := Lib.hid hX
  obtain ⟨XF, hF⟩ : ∃ XF, XF = Cy.ro n LN L := ⟨_, rfl⟩
  have HF := Lib.hid hF
  have HSX : Hid (SsSmall xx n.on) := by show SsSmall xx n.on; rw [hX]; exact run_ss HS0.out
  clear hX hF
  have QQ : Hid (w.heap.size ≤ w2.heap.size ∧ W.heap.size ≤ w2.heap.size) := ⟨OLD.out.size, R0.out.le.2⟩
  have SZ0 := Lib.hid (Nat.le_refl w2.heap.size)
  obtain ⟨⟨x0, x1, x2⟩, _⟩ := rowN3 R0.out.p
  go_wp2_with fail
  clear x0 x1 x2
  refine (toProg_any n la lk fa fk wa wk _ (HI0.out.below OLD.out) HS0.out).mono ?_
  rintro e w3 ⟨⟨glt10, gft10, gwt10, rfl, hk⟩, hb⟩
  have KT0 := Lib.hid hk
  clear hk
  replace SZ0 := Lib.hid (Nat.le_trans SZ0.out hb.size)
  replace OLD := Lib.hid (OLD.out.trans (hb.mono OLD.out.size))
  replace R0 := Lib.hid (R0.out.below hb)
  clear hb
  go_wp2_with fail
  refine (lists_conv ga gN gK LN L _ (HI1.out.below OLD.out) HS1.out).mono ?_
  rintro e w4 ⟨⟨gst11, rfl, hlo, hk⟩, hb⟩
  have KT1 := Lib.hid hk
  clear hk hlo
  replace KT0 := Lib.hid (KT0.out.below hb)
  replace SZ0 := Lib.hid (Nat.le_trans SZ0.out hb.size)
  replace OLD := Lib.hid (OLD.out.trans (hb.mono OLD.out.size))
  replace R0 := Lib.hid (R0.out.below hb)
  clear hb
  go_wp2_with fail
  refine (specLRun_any n _ _ _ _ _ _ _ gN _ LN L _ KT0.out.at_ HS0.out KT1.out HS1.out.1 HS1.out.2.2).mono ?_
  rintro e w5 ⟨hE, hb⟩
  rw [← HX.out, ← HF.out] at hE
  obtain ⟨a5, k5, rfl, hO⟩ := hE
  have FS := Lib.hid (fact_sso hO SZ0.out (Nat.le_trans SZ0.out hb.size))
  clear hO KT0 KT1 SZ0
  replace OLD := Lib.hid (OLD.out.trans (hb.mono OLD.out.size))
  replace R0 := Lib.hid (R0.out.below hb)
  clear hb
  obtain ⟨⟨x0, x1, x2⟩, _⟩ := rowN3 R0.out.p
  go_wp2_with fail
  clear x0 x1 x2
  refine (toProg_any n la lk fa fk wa wk _ (HI0.out.below OLD.out) HS0.out).mono ?_
  rintro e w6 ⟨⟨glc0, gfc0, gwc0, rfl, hk⟩, hb⟩
  obtain ⟨Y0, hZ⟩ : ∃ Z, Z = w6.alloc (.cells (#[.slice (some ⟨glc0, 0, none⟩) n.bn n.bn, .slice (some ⟨gfc0, 0, none⟩) n.on n.on, .slice (some ⟨gwc0, 0, none⟩) n.nn n.nn]) 27) := ⟨_, rfl⟩
  obtain ⟨p0, hs⟩ : ∃ s, s = w6.heap.size := ⟨_, rfl⟩
  have hbz : Below w5.heap.size w5 Y0 := hb.trans (by rw [hZ]; exact (nbel_alloc _ _).mono hb.size)
  have hr : Y0.rowIs p0 27 3 (rowN (pgL n (some ⟨glc0, 0, none⟩) n.bn (some ⟨gfc0, 0, none⟩) n.on (some ⟨gwc0, 0, none⟩) n.nn)) := by rw [hZ, hs]; exact rowN_alloc w6 (pgL n (some ⟨glc0, 0, none⟩) n.bn (some ⟨gfc0, 0, none⟩) n.on (some ⟨gwc0, 0, none⟩) n.nn) _
  have hk := hk.below (nbel_alloc w6 (.cells (#[.slice (some ⟨glc0, 0, none⟩) n.bn n.bn, .slice (some ⟨gfc0, 0, none⟩) n.on n.on, .slice (some ⟨gwc0, 0, none⟩) n.nn n.nn]) 27))
  rw [← hZ] at hk
  have hls : w5.heap.size ≤ p0 := by rw [hs]; exact hb.size
  have X0 := Lib.hid (fact_pg hr hk hls)
  have RX0 : Hid ((w5.heap.size ≤ glc0 ∧ glc0 < Y0.heap.size) ∧ (w5.heap.size ≤ gfc0 ∧ gfc0 < Y0.heap.size) ∧ (w5.heap.size ≤ gwc0 ∧ gwc0 < Y0.heap.size)) := ⟨⟨hk.lo.1, hk.l.lt⟩, ⟨hk.lo.2.1, hk.f.lt⟩, ⟨hk.lo.2.2, hk.w.lt⟩⟩
  have HZ := Lib.hid hZ
  have HSS := Lib.hid hs
  clear hZ hs hr hk hls hb
  replace OLD := Lib.hid (OLD.out.trans (hbz.mono OLD.out.size))
  replace R0 := Lib.hid (R0.out.below hbz)
  replace FS := Lib.hid (FS.out.below hbz)
  clear hbz
  have QX0 := Lib.hid X0.out.le.1
  go_wp2_with fail
  rw [← HZ.out, ← HSS.out]
  clear HZ HSS
  refine (lists_conv ga gN gK LN L _ (HI1.out.below OLD.out) HS1.out).mono ?_
  rintro e w7 ⟨⟨gsc1, rfl, hlo, hk⟩, hb⟩
  have X1 := Lib.hid (fact_tsb hk hlo)
  have RX1 : Hid (Y0.heap.size ≤ gsc1 ∧ gsc1 < w7.heap.size) := ⟨hlo, hk.lt⟩
  clear hk hlo
  replace OLD := Lib.hid (OLD.out.trans (hb.mono OLD.out.size))
  replace R0 := Lib.hid (R0.out.below hb)
  replace FS := Lib.hid (FS.out.below hb)
  replace X0 := Lib.hid (X0.out.below hb)
  clear hb
  have QX1 := Lib.hid X1.out.le.1
  obtain ⟨⟨x0, x1, x2⟩, _⟩ := rowN3 X0.out.p.1
  go_wp2_with fail
  clear x0 x1 x2
  refine (implLRun_any n _ _ _ _ _ _ _ gN _ LN L _ (X0.out.p.2).at_ HS0.out (X1.out.p.tss) HS1.out.1 HS1.out.2.2 (HG.out.below OLD.out)).mono ?_
  rintro e w8 ⟨hE, hb⟩
  rw [← HX.out, ← HF.out] at hE
  obtain ⟨a6, k6, rfl, hO⟩ := hE
  have GA := Lib.hid (fact_sso hO (Nat.le_refl _) hb.size)
  clear hO
  replace OLD := Lib.hid (OLD.out.trans (hb.mono OLD.out.size))
  replace R0 := Lib.hid (R0.out.below hb)
  replace FS := Lib.hid (FS.out.below hb)
  replace X0 := Lib.hid (X0.out.below hb)
  replace X1 := Lib.hid (X1.out.below hb)
  clear hb
  go_wp2_with fail
  refine (meqSS_same _ _ xx _ _ (fun _ => n.on) XF _ GA.out.p.at_ FS.out.p.at_ HSX.out.1 HSX.out.2.2).mono ?_
  rintro e w9 ⟨rfl, hb⟩
  replace OLD := Lib.hid (OLD.out.trans (hb.mono OLD.out.size))
  replace R0 := Lib.hid (R0.out.below hb)
  replace FS := Lib.hid (FS.out.below hb)
  replace X0 := Lib.hid (X0.out.below hb)
  replace X1 := Lib.hid (X1.out.below hb)
  replace GA := Lib.hid (GA.out.below hb)
  clear hb
  go_wp2_with fail
  refine wp_region_held_drew (S := fun V => Below w9.heap.size w9 V) (by kernel_rfl) (Below.refl _ _).drew (fun hHeld => ?_)
  obtain ⟨De0, hD⟩ : ∃ Z, Z = w9.drew := ⟨_, rfl⟩
  rw [← hD] at hHeld ⊢
  clear hD
  refine take_do (i := 0) (v := (pgV n (some ⟨glc0, 0, none⟩) n.bn (some ⟨gfc0, 0, none⟩) n.on (some ⟨gwc0, 0, none⟩) n.nn)) rfl (by kernel_rfl) (by kernel_rfl) (by kernel_rfl) (fun _ _ _ h => h) (by rfl) ?_ (by assumption) ?_
  · intro w hSw
    obtain ⟨⟨a0, a1, a2⟩, _⟩ := rowN3 (nrow_below X0.out.p.1 hSw)
    go_simp
  simp only [Act.put, List.setIfInBounds_toArray, List.set_cons_zero, List.set_cons_succ]
  refine take_do (i := 1) (v := (pgV n la lk fa fk wa wk)) rfl (by kernel_rfl) (by kernel_rfl) (by kernel_rfl) (fun _ _ _ h => h) (by rfl) ?_ (by assumption) ?_
  · intro w hSw
    obtain ⟨⟨a0, a1, a2⟩, _⟩ := rowN3 (nrow_below R0.out.p hSw)
    go_simp
  simp only [Act.put, List.setIfInBounds_toArray, List.set_cons_zero, List.set_cons_succ]
  refine take_call (i := 2) rfl (by kernel_rfl) (fun K2 hK => ?_)
  go_simp
  refine (toProg_any n la lk fa fk wa wk _ (HI0.out.below (OLD.out.trans (hHeld.mono OLD.out.size))) HS0.out).mono ?_
  rintro e w10 ⟨⟨gle0, gfe0, gwe0, rfl, hk⟩, hb⟩
  have KT := Lib.hid hk
  clear hk
  go_wp2_with fail
  refine hK.out _ _ (hHeld.trans (hb.mono hHeld.size)) (fun hHeld2 => ?_)
  clear hK hHeld hb
  refine take_call (i := 3) rfl (by kernel_rfl) (fun K2 hK => ?_)
  go_simp
  refine (eqProg_same n _ _ _ _ _ _ _ _ _ _ _ _ _ ((X0.out.below hHeld2).p.2).at_ KT.out.at_ HS0.out).mono ?_
  rintro e w11 ⟨rfl, hb⟩
  go_wp2_with fail
  refine hK.out _ _ (hHeld2.trans (hb.mono hHeld2.size)) (fun hHeld => ?_)
  clear hK hHeld2 hb KT
  refine take_do (i := 4) (v := (.bool false)) rfl (by kernel_rfl) (by kernel_rfl) (by kernel_rfl) (fun _ _ _ h => h) (by rfl) ?_ (by assumption) ?_
  · intro w hSw
    go_simp
  simp only [Act.put, List.setIfInBounds_toArray, List.set_cons_zero, List.set_cons_succ]
  refine wpAnyH_done (by kernel_rfl) ?_ _
  replace OLD := Lib.hid (OLD.out.trans (hHeld.mono OLD.out.size))
  replace R0 := Lib.hid (R0.out.below hHeld)
  replace FS := Lib.hid (FS.out.below hHeld)
  replace X0 := Lib.hid (X0.out.below hHeld)
  replace X1 := Lib.hid (X1.out.below hHeld)
  replace GA := Lib.hid (GA.out.below hHeld)
  clear hHeld
  go_wp2_with fail
  refine (lists_conv ga gN gK LN L _ (HI1.out.below OLD.out) HS1.out).mono ?_
  rintro e w12 ⟨⟨gse1, rfl, hlo, hk⟩, hb⟩
  have KT := Lib.hid hk
  clear hk hlo
  replace OLD := Lib.hid (OLD.out.trans (hb.mono OLD.out.size))
  replace R0 := Lib.hid (R0.out.below hb)
  replace FS := Lib.hid (FS.out.below hb)
  replace X0 := Lib.hid (X0.out.below hb)
  replace X1 := Lib.hid (X1.out.below hb)
  replace GA := Lib.hid (GA.out.below hb)
  clear hb
  go_wp2_with fail
  refine (meqSS_same _ _ gN _ _ LN L _ (X1.out.p.tss).at_ KT.out.at_ HS1.out.1 HS1.out.2.2).mono ?_
  rintro e w13 ⟨rfl, hb⟩
  clear KT
  replace OLD := Lib.hid (OLD.out.trans (hb.mono OLD.out.size))
  replace R0 := Lib.hid (R0.out.below hb)
  replace FS := Lib.hid (FS.out.below hb)
  replace X0 := Lib.hid (X0.out.below hb)
  replace X1 := Lib.hid (X1.out.below hb)
  replace GA := Lib.hid (GA.out.below hb)
  clear hb
  obtain ⟨⟨x0, x1, x2⟩, _⟩ := rowN3 X0.out.p.1
  go_wp2_with fail
  clear x0 x1 x2
  refine (markProg_any n _ glc0 gfc0 gwc0 n.bn n.on n.nn _ (X0.out.p.2) HS0.out).mono ?_
  rintro e w14 ⟨⟨M0, rfl, hM0⟩, ho⟩
  have hRG : Rng w5.heap.size Y0.heap.size w13 w14 := ⟨ho.os, ho.tape, ho.output, ho.size, fun k hk hn => ho.block k hk (fun e => hn (by subst e; exact RX0.out.1)) (fun e => hn (by subst e; exact RX0.out.2.1)) (fun e => hn (by subst e; exact RX0.out.2.2))⟩
  clear ho
  have q0 := OLD.out.size
  have q1 := R0.out.le
  have q2 := FS.out.le
  have q3 := X0.out.le
  have q4 := X1.out.le
  have q5 := GA.out.le
  have qq := QQ.out
  have rQX0 := QX0.out
  have rQX1 := QX1.out
  replace OLD := Lib.hid (hRG.old OLD.out (by omega) (by omega))
  replace R0 := Lib.hid (R0.out.out hRG (by omega))
  replace FS := Lib.hid (FS.out.out hRG (by omega))
  replace X1 := Lib.hid (X1.out.out hRG (by omega))
  replace GA := Lib.hid (GA.out.out hRG (by omega))
  clear hRG q0 qq X0 RX0 q1 q2 q3 q4 q5 rQX0 rQX1
  have hK00 : ¬ (M0 : Int) < 0 := mark_pos _
  go_wp2_with fail
  refine (tmark_any gsc1 gN gN M0 _ _ LN L _ (X1.out.p) RX1.out.1 HS1.out (by omega)).mono ?_
  rintro e w15 ⟨rfl, ho⟩
  have hRG : Rng Y0.heap.size w7.heap.size w14 w15 := ho
  clear ho
  have q0 := OLD.out.size
  have q1 := R0.out.le
  have q2 := FS.out.le
  have q4 := X1.out.le
  have q5 := GA.out.le
  have qq := QQ.out
  have rQX0 := QX0.out
  have rQX1 := QX1.out
  replace OLD := Lib.hid (hRG.old OLD.out (by omega) (by omega))
  replace R0 := Lib.hid (R0.out.out hRG (by omega))
  replace FS := Lib.hid (FS.out.out hRG (by omega))
  replace GA := Lib.hid (GA.out.out hRG (by omega))
  clear hRG q0 qq X1 RX1 q1 q2 q4 q5 rQX0 rQX1
  obtain ⟨K1, hK⟩ : ∃ K : Nat, K = M0 + Mn.tot LN gN := ⟨_, rfl⟩
  have hKK1 : K1 ≤ 200000000 := by have := HS1.out; unfold ListsSmall at this;  omega
  rw [← hK]
  have hK10 : ¬ (K1 : Int) < 0 := mark_pos _
  clear hK
  go_wp2_with fail
  refine (meqSS_same _ _ xx _ _ (fun _ => n.on) XF _ GA.out.p.at_ FS.out.p.at_ HSX.out.1 HSX.out.2.2).mono ?_
  rintro e w16 ⟨rfl, hb⟩
  replace OLD := Lib.hid (OLD.out.trans (hb.mono OLD.out.size))
  replace R0 := Lib.hid (R0.out.below hb)
  replace FS := Lib.hid (FS.out.below hb)
  replace GA := Lib.hid (GA.out.below hb)
  clear hb
  go_wp2_with fail
  refine (markSs_any _ _ xx _ _ (fun _ => n.on) XF _ GA.out.p HSX.out.1 HSX.out.2.1).mono ?_
  rintro e w17 ⟨rfl, hm, ho⟩
  have hRG : Rng w7.heap.size w16.heap.size w16 w17 := (rng_r ho).mono (Nat.le_refl _) GA.out.le.2
  clear ho
  have q0 := OLD.out.size
  have q1 := R0.out.le
  have q2 := FS.out.le
  have q3 := GA.out.le
  have qq := QQ.out
  have rQX0 := QX0.out
  have rQX1 := QX1.out
  replace OLD := Lib.hid (hRG.old OLD.out (by omega) (by omega))
  replace R0 := Lib.hid (R0.out.out hRG (by omega))
  replace FS := Lib.hid (FS.out.out hRG (by omega))
  replace GA := Lib.hid (show Fact _ _ (fun V => SsO _ _ _ _ _ _ _ V) _ from ⟨hm, stab_sso (Nat.le_refl _), q3.1, Nat.le_trans q3.2 hRG.size⟩)
  clear hm hRG qq q0 q1 q2 q3 rQX0 rQX1
  obtain ⟨QN, hQ⟩ : ∃ Q : Nat, Q = 1 + Mn.tot (fun _ => n.on) xx := ⟨_, rfl⟩
  have HQ : Hid (1 + Mn.tot (fun _ => n.on) xx = QN) := hQ.symm
  rw [← hQ]
  have hQ0 : ¬ (QN : Int) < 0 := mark_pos _
  have hQQ : ((QN : Int) != (QN : Int)) = false := by simp
  clear hQ
  go_wp2_with fail
  refine (heldSs_any _ _ xx _ _ (fun _ => n.on) _ GA.out.p HSX.out.1 HSX.out.2.1).mono ?_
  rintro e w18 ⟨rfl, hw⟩
  rw [HQ.out, hw]
  clear hw w18
  have SZ0 := Lib.hid (Nat.le_refl w17.heap.size)
  obtain ⟨⟨x0, x1, x2⟩, _⟩ := rowN3 R0.out.p
  go_wp2_with fail
  clear x0 x1 x2
  refine (toProg_any n la lk fa fk wa wk _ (HI0.out.below OLD.out) HS0.out).mono ?_
  rintro e w19 ⟨⟨glt20, gft20, gwt20, rfl, hk⟩, hb⟩
  have KT0 := Lib.hid hk
  clear hk
  replace SZ0 := Lib.hid (Nat.le_trans SZ0.out hb.size)
  replace OLD := Lib.hid (OLD.out.trans (hb.mono OLD.out.size))
  replace R0 := Lib.hid (R0.out.below hb)
  replace FS := Lib.hid (FS.out.below hb)
  replace GA := Lib.hid (GA.out.below hb)
  clear hb
  go_wp2_with fail
  refine (lists_conv ga gN gK LN L _ (HI1.out.below OLD.out) HS1.out).mono ?_
  rintro e w20 ⟨⟨gst21, rfl, hlo, hk⟩, hb⟩
  have KT1 := Lib.hid hk
  clear hk hlo
  replace KT0 := Lib.hid (KT0.out.below hb)
  replace SZ0 := Lib.hid (Nat.le_trans SZ0.out hb.size)
  replace OLD := Lib.hid (OLD.out.trans (hb.mono OLD.out.size))
  replace R0 := Lib.hid (R0.out.below hb)
  replace FS := Lib.hid (FS.out.below hb)
  replace GA := Lib.hid (GA.out.below hb)
  clear hb
  go_wp2_with fail
  refine (implLRun_any n _ _ _ _ _ _ _ gN _ LN L _ KT0.out.at_ HS0.out KT1.out HS1.out.1 HS1.out.2.2 (HG.out.below OLD.out)).mono ?_
  rintro e w21 ⟨hE, hb⟩
  rw [← HX.out, ← HF.out] at hE
  obtain ⟨a9, k9, rfl, hO⟩ := hE
  have GB := Lib.hid (fact_sso hO SZ0.out (Nat.le_trans SZ0.out hb.size))
  clear hO KT0 KT1 SZ0
  replace OLD := Lib.hid (OLD.out.trans (hb.mono OLD.out.size))
  replace R0 := Lib.hid (R0.out.below hb)
  replace FS := Lib.hid (FS.out.below hb)
  replace GA := Lib.hid (GA.out.below hb)
  clear hb
  go_wp2_with fail
  refine (meqSS_same _ _ xx _ _ (fun _ => n.on) XF _ GB.out.p.at_ FS.out.p.at_ HSX.out.1 HSX.out.2.2).mono ?_
  rintro e w22 ⟨rfl, hb⟩
  replace OLD := Lib.hid (OLD.out.trans (hb.mono OLD.out.size))
  replace R0 := Lib.hid (R0.out.below hb)
  replace FS := Lib.hid (FS.out.below hb)
  replace GA := Lib.hid (GA.out.below hb)
  replace GB := Lib.hid (GB.out.below hb)
  clear hb
  clear GB
  go_wp2_with fail
  refine (heldSs_any _ _ xx _ _ (fun _ => n.on) _ GA.out.p HSX.out.1 HSX.out.2.1).mono ?_
  rintro e w23 ⟨rfl, hw⟩
  rw [HQ.out, hw]
  clear hw w23
  go_wp2_with fail
  go_ret
  exact ⟨rfl, OLD.out⟩
end Go.Proofs.YtgkdnpnnmmpnmaaGreatDoor
