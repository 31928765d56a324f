/-
  Sewers as the document tells them: right ones, a step, what stands behind it, the book of their water. No program is named here.
-/
namespace Go.Proofs.YtokbhkcpkilcmaaDoor
namespace Sw

/-- A sewer. -/
structure Rc where
  kd : Int
  st : Int
  rm : Int
  fw : Int
  lp : Int
  dn : Int

def Amounts (r : Rc) : Prop := (1 ≤ r.kd ∧ r.kd ≤ 3) ∧ (0 ≤ r.rm ∧ r.rm ≤ 1000000) ∧ (0 ≤ r.fw ∧ r.fw ≤ 1000000) ∧ (0 ≤ r.lp ∧ r.lp ≤ 1000000) ∧ (0 ≤ r.st ∧ r.st ≤ r.rm)
def DownOk (n i : Nat) (d : Int) : Prop := d = -1 ∨ ((i : Int) < d ∧ d < (n : Int))
/-- Right sewers. -/
def Right (n : Nat) (rs : Nat → Rc) : Prop := (1 ≤ n ∧ n ≤ 40) ∧ ∀ i, i < n → Amounts (rs i) ∧ DownOk n i (rs i).dn
/-- A right storm. -/
def RainOk (n : Nat) (c : Nat → Int) : Prop := ∀ i, i < n → 0 ≤ c i ∧ c i ≤ 1000000

/-- A full one's share. -/
def share (r : Rc) (x : Int) : Int := (r.fw * x) / (r.rm + 1)
/-- What goes on of so much water. -/
def goes (r : Rc) (x : Int) : Int := if r.kd = 1 then min x r.fw else if r.kd = 2 then min (min x r.fw) (share r x) else min (max 0 (x - r.lp)) r.fw
/-- What goes on, what stays, what spills, by what comes. -/
def flows (r : Rc) (c : Int) : Int := goes r (r.st + c)
def left (r : Rc) (c : Int) : Int := r.st + c - flows r c
def stays (r : Rc) (c : Int) : Int := min (left r c) r.rm
def taken (r : Rc) (c : Int) : Int := left r c - stays r c

theorem share_nonneg {r : Rc} (hr : Amounts r) {x : Int} (hx : 0 ≤ x) : 0 ≤ share r x := by
  unfold share
  obtain ⟨_, ⟨a, _⟩, ⟨b, _⟩, _⟩ := hr
  exact Int.ediv_nonneg (Int.mul_nonneg b hx) (by omega)
theorem prod_bounds {r : Rc} (hr : Amounts r) {x : Int} (hx : 0 ≤ x) (hx2 : x ≤ 100000000) : 0 ≤ r.fw * x ∧ r.fw * x ≤ 100000000000000 := by
  obtain ⟨_, ⟨a, _⟩, ⟨b, b1⟩, _⟩ := hr
  refine ⟨Int.mul_nonneg b hx, ?_⟩
  have h1 : r.fw * x ≤ 1000000 * x := Int.mul_le_mul_of_nonneg_right b1 hx
  omega
theorem share_le {r : Rc} (hr : Amounts r) {x : Int} (hx : 0 ≤ x) (hx2 : x ≤ 100000000) : share r x ≤ 100000000000000 := by
  have h := prod_bounds hr hx hx2
  obtain ⟨_, ⟨a, _⟩, ⟨b, b1⟩, _⟩ := hr
  unfold share
  generalize r.fw * x = y at h
  have h1 : y / (r.rm + 1) ≤ y := Int.ediv_le_self _ h.1
  omega
theorem goes_bounds {r : Rc} (hr : Amounts r) {x : Int} (hx : 0 ≤ x) : 0 ≤ goes r x ∧ goes r x ≤ x ∧ goes r x ≤ r.fw := by
  have hs := share_nonneg hr hx
  obtain ⟨_, ⟨a, _⟩, ⟨b, b1⟩, ⟨l0, l1⟩, _⟩ := hr
  unfold goes
  generalize share r x = y at hs
  by_cases e1 : r.kd = 1
  · rw [if_pos e1]; omega
  · by_cases e2 : r.kd = 2
    · rw [if_neg e1, if_pos e2]; omega
    · rw [if_neg e1, if_neg e2]; omega
theorem share_facts {r : Rc} (hr : Amounts r) {c : Int} (hc : 0 ≤ c) :
    (0 ≤ flows r c ∧ flows r c ≤ 1000000) ∧ (0 ≤ taken r c ∧ taken r c ≤ r.st + c) ∧ (0 ≤ stays r c ∧ stays r c ≤ r.rm) ∧ stays r c + taken r c + flows r c = r.st + c := by
  have hg := goes_bounds hr (x := r.st + c) (by have := hr.2.2.2.2.1; omega)
  obtain ⟨_, ⟨a, _⟩, ⟨b, b1⟩, _, ⟨s0, s1⟩⟩ := hr
  unfold taken stays left flows
  generalize goes r (r.st + c) = y at hg
  omega

/-- What stands in a step: what comes to each, the stores, what spilt, what goes on, what came to the works. -/
structure St where
  cs : Nat → Int
  st : Nat → Int
  tk : Nat → Int
  fl : Nat → Int
  sea : Int

def upd (f : Nat → Int) (i : Nat) (x : Int) : Nat → Int := fun j => if j = i then x else f j
theorem upd_same (f : Nat → Int) (i : Nat) (x : Int) : upd f i x i = x := if_pos rfl
theorem upd_ne (f : Nat → Int) {i j : Nat} (x : Int) (h : j ≠ i) : upd f i x j = f j := if_neg h

/-- What stands behind the sewer at a place. -/
def thenSt (rs : Nat → Rc) (i : Nat) (s : St) : St :=
  ⟨if (rs i).dn = -1 then s.cs else upd s.cs (rs i).dn.toNat (s.cs (rs i).dn.toNat + flows (rs i) (s.cs i)), upd s.st i (stays (rs i) (s.cs i)), upd s.tk i (taken (rs i) (s.cs i)), upd s.fl i (flows (rs i) (s.cs i)), if (rs i).dn = -1 then s.sea + flows (rs i) (s.cs i) else s.sea⟩
def start (rs : Nat → Rc) (rain : Nat → Int) : St := ⟨rain, fun j => (rs j).st, fun _ => 0, fun _ => 0, 0⟩
/-- The step up to a place. -/
def run (rs : Nat → Rc) (rain : Nat → Int) : Nat → St
  | 0 => start rs rain
  | i + 1 => thenSt rs i (run rs rain i)

/-- A sum of the first n. -/
def sumN (f : Nat → Int) : Nat → Int
  | 0 => 0
  | n + 1 => sumN f n + f n
theorem sumN_congr {f g : Nat → Int} {n : Nat} (h : ∀ j, j < n → f j = g j) : sumN f n = sumN g n := by
  induction n with
  | zero => rfl
  | succ n ih => show sumN f n + f n = sumN g n + g n; rw [ih (fun j hj => h j (by omega)), h n (by omega)]
theorem sumN_upd {f g : Nat → Int} {n i : Nat} (hi : i < n) (h : ∀ j, j ≠ i → g j = f j) : sumN g n = sumN f n + g i - f i := by
  induction n with
  | zero => omega
  | succ n ih =>
    show sumN g n + g n = sumN f n + f n + g i - f i
    by_cases e : i = n
    · subst e
      rw [sumN_congr (f := g) (g := f) (fun j hj => h j (by omega))]; omega
    · rw [ih (by omega), h n (fun k => e k.symm)]; omega
theorem sumN_nonneg {f : Nat → Int} {n : Nat} (h : ∀ j, j < n → 0 ≤ f j) : 0 ≤ sumN f n := by
  induction n with
  | zero => exact Int.le_refl _
  | succ n ih => show 0 ≤ sumN f n + f n; have := ih (fun j hj => h j (by omega)); have := h n (by omega); omega
theorem sumN_ge {f : Nat → Int} {n i : Nat} (h : ∀ j, j < n → 0 ≤ f j) (hi : i < n) : f i ≤ sumN f n := by
  induction n with
  | zero => omega
  | succ n ih =>
    show f i ≤ sumN f n + f n
    by_cases e : i = n
    · subst e; have := sumN_nonneg (f := f) (n := i) (fun j hj => h j (by omega)); omega
    · have := ih (fun j hj => h j (by omega)) (by omega); have := h n (by omega); omega
theorem sumN_le {f : Nat → Int} {n : Nat} {M : Int} (h : ∀ j, j < n → f j ≤ M) : sumN f n ≤ n * M := by
  induction n with
  | zero => show (0 : Int) ≤ _; simp
  | succ n ih =>
    show sumN f n + f n ≤ _
    have h1 := ih (fun j hj => h j (by omega))
    have h2 := h n (by omega)
    have e : ((n + 1 : Nat) : Int) * M = n * M + M := by rw [Int.natCast_add, Int.add_mul]; simp
    omega
theorem sumN_zero (n : Nat) : sumN (fun _ => 0) n = 0 := by
  induction n with
  | zero => rfl
  | succ n ih => show sumN _ n + 0 = 0; rw [ih]; rfl
theorem sumN_add (f g : Nat → Int) (n : Nat) : sumN (fun j => f j + g j) n = sumN f n + sumN g n := by
  induction n with
  | zero => rfl
  | succ n ih => show sumN _ n + (f n + g n) = sumN f n + f n + (sumN g n + g n); rw [ih]; omega

/-- What comes yet to places from i on. -/
def rest (i : Nat) (c : Nat → Int) : Nat → Int := fun j => if j < i then 0 else c j

/-- What holds up to a place of a step. -/
structure Inv (n : Nat) (rs : Nat → Rc) (rain : Nat → Int) (i : Nat) (s : St) : Prop where
  cs0 : ∀ j, j < n → 0 ≤ s.cs j
  st0 : ∀ j, j < n → 0 ≤ s.st j ∧ s.st j ≤ (rs j).rm
  tk0 : ∀ j, j < n → 0 ≤ s.tk j ∧ (0 ≤ s.fl j ∧ s.fl j ≤ 1000000)
  tkz : ∀ j, i ≤ j → s.tk j = 0 ∧ s.fl j = 0 ∧ s.st j = (rs j).st
  sea0 : 0 ≤ s.sea
  tot : sumN s.st n + sumN (rest i s.cs) n + sumN s.tk n + s.sea = sumN (fun j => (rs j).st) n + sumN rain n

theorem inv_start {n : Nat} {rs : Nat → Rc} {rain : Nat → Int} (hr : Right n rs) (hq : RainOk n rain) : Inv n rs rain 0 (start rs rain) where
  cs0 := fun j hj => (hq j hj).1
  st0 := fun j hj => (hr.2 j hj).1.2.2.2.2
  tk0 := fun j _ => ⟨Int.le_refl _, Int.le_refl _, by show (0 : Int) ≤ _; omega⟩
  tkz := fun j _ => ⟨rfl, rfl, rfl⟩
  sea0 := Int.le_refl _
  tot := by
    have e : sumN (rest 0 (start rs rain).cs) n = sumN rain n := sumN_congr (fun j _ => by show (if j < 0 then 0 else rain j) = rain j; rw [if_neg (by omega)])
    rw [e]
    show sumN (fun j => (rs j).st) n + sumN rain n + sumN (fun _ => 0) n + 0 = _
    rw [sumN_zero]; omega

theorem inv_next {n : Nat} {rs : Nat → Rc} {rain : Nat → Int} {i : Nat} {s : St} (hr : Right n rs) (hi : i < n) (h : Inv n rs rain i s) : Inv n rs rain (i + 1) (thenSt rs i s) := by
  obtain ⟨hA, hD⟩ := hr.2 i hi
  have hc := h.cs0 i hi
  have hf := share_facts hA hc
  obtain ⟨⟨f0, f1⟩, ⟨t0, t1⟩, ⟨b0, b1⟩, ft⟩ := hf
  have eS : sumN (upd s.st i (stays (rs i) (s.cs i))) n = sumN s.st n + stays (rs i) (s.cs i) - (rs i).st := by
    rw [sumN_upd (f := s.st) hi (fun j hj => upd_ne _ _ hj), upd_same, (h.tkz i (Nat.le_refl _)).2.2]
  have eT : sumN (upd s.tk i (taken (rs i) (s.cs i))) n = sumN s.tk n + taken (rs i) (s.cs i) := by
    rw [sumN_upd (f := s.tk) hi (fun j hj => upd_ne _ _ hj), upd_same, (h.tkz i (Nat.le_refl _)).1]; omega
  have eR : sumN (rest (i + 1) s.cs) n = sumN (rest i s.cs) n - s.cs i := by
    rw [sumN_upd (f := rest i s.cs) hi (fun j hj => by unfold rest; by_cases e : j < i; · rw [if_pos e, if_pos (by omega)]
                                                       · rw [if_neg e, if_neg (by omega)])]
    unfold rest; rw [if_pos (by omega), if_neg (by omega)]; omega
  have ht := h.tot
  refine ⟨?_, ?_, ?_, ?_, ?_, ?_⟩
  · intro j hj
    show 0 ≤ (if (rs i).dn = -1 then s.cs else _) j
    by_cases e : (rs i).dn = -1
    · rw [if_pos e]; exact h.cs0 j hj
    · rw [if_neg e]; unfold upd
      by_cases e2 : j = (rs i).dn.toNat
      · rw [if_pos e2]
        have := h.cs0 _ (e2 ▸ hj)
        omega
      · rw [if_neg e2]; exact h.cs0 j hj
  · intro j hj
    show 0 ≤ upd s.st i _ j ∧ upd s.st i _ j ≤ _
    by_cases e : j = i
    · subst e; rw [upd_same]; omega
    · rw [upd_ne _ _ e]; exact h.st0 j hj
  · intro j hj
    show 0 ≤ upd s.tk i _ j ∧ (0 ≤ upd s.fl i _ j ∧ upd s.fl i _ j ≤ _)
    by_cases e : j = i
    · subst e; rw [upd_same, upd_same]; exact ⟨t0, f0, f1⟩
    · rw [upd_ne _ _ e, upd_ne _ _ e]; exact h.tk0 j hj
  · intro j hj
    show upd s.tk i _ j = 0 ∧ upd s.fl i _ j = 0 ∧ upd s.st i _ j = _
    rw [upd_ne _ _ (by omega), upd_ne _ _ (by omega), upd_ne _ _ (by omega)]
    exact h.tkz j (by omega)
  · show 0 ≤ (if (rs i).dn = -1 then s.sea + _ else s.sea)
    have := h.sea0
    by_cases e : (rs i).dn = -1
    · rw [if_pos e]; omega
    · rw [if_neg e]; exact this
  · show sumN (upd s.st i _) n + sumN (rest (i + 1) (if (rs i).dn = -1 then s.cs else _)) n + sumN (upd s.tk i _) n + (if (rs i).dn = -1 then s.sea + _ else s.sea) = _
    rw [eS, eT]
    by_cases e : (rs i).dn = -1
    · rw [if_pos e, if_pos e, eR]; omega
    · rw [if_neg e, if_neg e]
      have hd : (i : Int) < (rs i).dn ∧ (rs i).dn < (n : Int) := by
        rcases hD with hD | hD
        · exact absurd hD e
        · exact hD
      generalize hx : (rs i).dn.toNat = x
      have hx1 : i < x ∧ x < n := by omega
      have eQ : sumN (rest (i + 1) (upd s.cs x (s.cs x + flows (rs i) (s.cs i)))) n = sumN (rest (i + 1) s.cs) n + flows (rs i) (s.cs i) := by
        rw [sumN_upd (f := rest (i + 1) s.cs) hx1.2 (fun j hj => by unfold rest; rw [upd_ne _ _ hj])]
        unfold rest; rw [if_neg (by omega), if_neg (by omega), upd_same]; omega
      rw [eQ, eR]; omega

theorem run_inv {n : Nat} {rs : Nat → Rc} {rain : Nat → Int} (hr : Right n rs) (hq : RainOk n rain) {i : Nat} (hi : i ≤ n) : Inv n rs rain i (run rs rain i) := by
  induction i with
  | zero => exact inv_start hr hq
  | succ i ih => exact inv_next hr (by omega) (ih (by omega))

/-- Sums of what was ahead are bounded. -/
theorem tot_le {n : Nat} {rs : Nat → Rc} {rain : Nat → Int} (hr : Right n rs) (hq : RainOk n rain) : sumN (fun j => (rs j).st) n + sumN rain n ≤ 80000000 := by
  have h1 : sumN (fun j => (rs j).st) n ≤ n * 1000000 := sumN_le (fun j hj => by have h := (hr.2 j hj).1; have h1 := h.2.1.2; have h2 := h.2.2.2.2.2; omega)
  have h2 : sumN rain n ≤ n * 1000000 := sumN_le (fun j hj => (hq j hj).2)
  have := hr.1.2
  omega

theorem Inv.bounds {n : Nat} {rs : Nat → Rc} {rain : Nat → Int} {i : Nat} {s : St} (h : Inv n rs rain i s) (hr : Right n rs) (hq : RainOk n rain) (_hi : i ≤ n) :
    (∀ j, i ≤ j → j < n → 0 ≤ s.cs j ∧ s.cs j ≤ 80000000) ∧ (0 ≤ s.sea ∧ s.sea ≤ 80000000) ∧ ∀ j, j < n → s.tk j ≤ 80000000 := by
  have ht := h.tot
  have hl := tot_le hr hq
  have p1 : 0 ≤ sumN s.st n := sumN_nonneg (fun j hj => (h.st0 j hj).1)
  have r0 : ∀ j, j < n → 0 ≤ rest i s.cs j := fun j hj => by
    unfold rest
    by_cases e : j < i
    · rw [if_pos e]; omega
    · rw [if_neg e]; exact h.cs0 j hj
  have p2 : 0 ≤ sumN (rest i s.cs) n := sumN_nonneg r0
  have p3 : 0 ≤ sumN s.tk n := sumN_nonneg (fun j hj => (h.tk0 j hj).1)
  have p4 := h.sea0
  refine ⟨fun j h1 h2 => ⟨h.cs0 j h2, ?_⟩, ⟨p4, by omega⟩, fun j hj => ?_⟩
  · have := sumN_ge r0 h2
    unfold rest at this
    rw [if_neg (by omega)] at this
    unfold rest at ht p2
    omega
  · have := sumN_ge (fun j hj => (h.tk0 j hj).1) hj
    omega

/-- The book of a step. -/
theorem run_book {n : Nat} {rs : Nat → Rc} {rain : Nat → Int} (hr : Right n rs) (hq : RainOk n rain) : sumN (run rs rain n).st n + sumN (run rs rain n).tk n + (run rs rain n).sea = sumN (fun j => (rs j).st) n + sumN rain n := by
  have hi := run_inv hr hq (Nat.le_refl _)
  have ht := hi.tot
  have e : sumN (rest n (run rs rain n).cs) n = 0 := by
    rw [sumN_congr (f := rest n (run rs rain n).cs) (g := fun _ => 0) (fun j hj => if_pos hj), sumN_zero]
  omega

/-- The places that spill, rising. -/
def spillB (tk : Nat → Int) (j : Nat) : Bool := decide (0 < tk j)
def spills (tk : Nat → Int) (m : Nat) : List Nat := (List.range m).filter (spillB tk)
theorem spills_succ (tk : Nat → Int) (m : Nat) : spills tk (m + 1) = spills tk m ++ (if 0 < tk m then [m] else []) := by
  unfold spills
  rw [List.range_succ, List.filter_append]
  congr 1
  by_cases h : 0 < tk m
  · simp [h, spillB]
  · simp [h, spillB]
theorem mem_spills {tk : Nat → Int} {m j : Nat} (hj : j < m) : j ∈ spills tk m ↔ 0 < tk j := by
  unfold spills spillB; simp [hj]

/-- A run: the sewers, the sums of what goes on and spilt, what came to the works. -/
structure RSt where
  rs : Nat → Rc
  fl : Nat → Int
  tk : Nat → Int
  sea : Int
/-- The sewers behind a step. -/
def after (rs : Nat → Rc) (s : St) : Nat → Rc := fun j => { rs j with st := s.st j }
/-- A storm: how many, and which. -/
structure Rain where
  len : Nat
  at_ : Nat → Int
/-- A run one step on. -/
def nextR (n : Nat) (t : RSt) (q : Rain) : RSt := ⟨after t.rs (run t.rs q.at_ n), fun j => t.fl j + (run t.rs q.at_ n).fl j, fun j => t.tk j + (run t.rs q.at_ n).tk j, t.sea + (run t.rs q.at_ n).sea⟩
open Classical in
noncomputable def runs (n : Nat) (rs : Nat → Rc) (q : Nat → Rain) : Nat → Option RSt
  | 0 => some ⟨rs, fun _ => 0, fun _ => 0, 0⟩
  | k + 1 => (runs n rs q k).bind fun t => if (q k).len = n ∧ RainOk n (q k).at_ then some (nextR n t (q k)) else none
theorem runs_none {n : Nat} {rs : Nat → Rc} {q : Nat → Rain} {k m : Nat} (h : runs n rs q k = none) (hk : k ≤ m) : runs n rs q m = none := by
  induction m with
  | zero => obtain rfl : k = 0 := by omega
            exact h
  | succ m ih =>
    by_cases e : k = m + 1
    · subst e; exact h
    · unfold runs; rw [ih (by omega)]; rfl
theorem runs_bad {n : Nat} {rs : Nat → Rc} {q : Nat → Rain} {k m : Nat} {t : RSt} (h : runs n rs q k = some t) (hb : ¬ ((q k).len = n ∧ RainOk n (q k).at_)) (hk : k < m) : runs n rs q m = none := by
  refine runs_none (k := k + 1) ?_ hk
  unfold runs; rw [h]; exact if_neg hb
theorem runs_next {n : Nat} {rs : Nat → Rc} {q : Nat → Rain} {k : Nat} {t : RSt} (h : runs n rs q k = some t) (hb : (q k).len = n ∧ RainOk n (q k).at_) : runs n rs q (k + 1) = some (nextR n t (q k)) := by
  unfold runs; rw [h]; exact if_pos hb
theorem runs_prev {n : Nat} {rs : Nat → Rc} {q : Nat → Rain} {k : Nat} {t : RSt} (h : runs n rs q (k + 1) = some t) : ∃ t0, runs n rs q k = some t0 ∧ ((q k).len = n ∧ RainOk n (q k).at_) ∧ t = nextR n t0 (q k) := by
  cases h0 : runs n rs q k with
  | none => rw [runs_none h0 (Nat.le_succ _)] at h; cases h
  | some t0 =>
    by_cases hb : (q k).len = n ∧ RainOk n (q k).at_
    · rw [runs_next h0 hb] at h
      exact ⟨t0, rfl, hb, (Option.some.inj h).symm⟩
    · rw [runs_bad h0 hb (Nat.lt_succ_self _)] at h; cases h
theorem right_after {n : Nat} {rs : Nat → Rc} {rain : Nat → Int} (hr : Right n rs) (hq : RainOk n rain) : Right n (after rs (run rs rain n)) :=
  ⟨hr.1, fun i hi => ⟨⟨(hr.2 i hi).1.1, (hr.2 i hi).1.2.1, (hr.2 i hi).1.2.2.1, (hr.2 i hi).1.2.2.2.1, (run_inv hr hq (Nat.le_refl _)).st0 i hi⟩, (hr.2 i hi).2⟩⟩
/-- All storms up to a step. -/
def rainSum (n : Nat) (q : Nat → Rain) : Nat → Int
  | 0 => 0
  | k + 1 => rainSum n q k + sumN (q k).at_ n
/-- The book of a run, and how great its sums may be. -/
theorem runs_book {n : Nat} {rs : Nat → Rc} {q : Nat → Rain} (hr : Right n rs) {k : Nat} {t : RSt} (h : runs n rs q k = some t) :
    Right n t.rs ∧ sumN (fun j => (t.rs j).st) n + sumN t.tk n + t.sea = sumN (fun j => (rs j).st) n + rainSum n q k ∧ (0 ≤ t.sea ∧ t.sea ≤ k * 80000000) ∧ ∀ j, j < n → (0 ≤ t.tk j ∧ t.tk j ≤ k * 80000000) ∧ (0 ≤ t.fl j ∧ t.fl j ≤ k * 80000000) := by
  induction k generalizing t with
  | zero =>
    cases h
    refine ⟨hr, ?_, ⟨Int.le_refl _, by simp⟩, fun j _ => ⟨⟨Int.le_refl _, by simp⟩, ⟨Int.le_refl _, by simp⟩⟩⟩
    show sumN _ n + sumN (fun _ => 0) n + 0 = _ + 0
    rw [sumN_zero]
    show sumN (fun j => (rs j).st) n + 0 + 0 = _
    omega
  | succ k ih =>
    obtain ⟨t0, h0, hb, rfl⟩ := runs_prev h
    obtain ⟨hr0, hbk, ⟨e0, e1⟩, hf⟩ := ih h0
    have hI := run_inv hr0 hb.2 (Nat.le_refl _)
    have hB := hI.bounds hr0 hb.2 (Nat.le_refl _)
    have hK := run_book hr0 hb.2
    have hR := right_after hr0 hb.2
    unfold nextR
    generalize run t0.rs (q k).at_ n = s at hI hB hK hR
    have ek : ((k + 1 : Nat) : Int) = k + 1 := by omega
    obtain ⟨_, ⟨z0, z1⟩, z2⟩ := hB
    refine ⟨hR, ?_, ⟨?_, ?_⟩, fun j hj => ?_⟩
    · show sumN (fun j => s.st j) n + sumN (fun j => t0.tk j + s.tk j) n + (t0.sea + s.sea) = _ + (rainSum n q k + sumN (q k).at_ n)
      rw [sumN_add]
      show sumN s.st n + _ + _ = _
      omega
    · show 0 ≤ t0.sea + s.sea
      omega
    · show t0.sea + s.sea ≤ _
      rw [ek]; omega
    · obtain ⟨⟨a0, a1⟩, ⟨b0, b1⟩⟩ := hf j hj
      obtain ⟨c0, c1, c3⟩ := hI.tk0 j hj
      have c2 := z2 j hj
      show (0 ≤ t0.tk j + s.tk j ∧ t0.tk j + s.tk j ≤ _) ∧ (0 ≤ t0.fl j + s.fl j ∧ t0.fl j + s.fl j ≤ _)
      rw [ek]
      refine ⟨⟨?_, ?_⟩, ⟨?_, ?_⟩⟩ <;> omega

open Classical in
/-- What a step tells. -/
noncomputable def step (n m : Nat) (rs : Nat → Rc) (rain : Nat → Int) : Except Int St := if Right n rs ∧ m = n ∧ RainOk n rain then .ok (run rs rain n) else .error 1
theorem step_no {n m : Nat} {rs : Nat → Rc} {rain : Nat → Int} (h : ¬ (Right n rs ∧ m = n ∧ RainOk n rain)) : step n m rs rain = .error 1 := by unfold step; rw [if_neg h]
theorem step_no1 {n m : Nat} {rs : Nat → Rc} {rain : Nat → Int} (h : ¬ Right n rs) : step n m rs rain = .error 1 := step_no (fun k => h k.1)
theorem step_no2 {n m : Nat} {rs : Nat → Rc} {rain : Nat → Int} (h : ¬ (m = n ∧ RainOk n rain)) : step n m rs rain = .error 1 := step_no (fun k => h k.2)
theorem step_ok {n m : Nat} {rs : Nat → Rc} {rain : Nat → Int} (h : Right n rs ∧ m = n ∧ RainOk n rain) : step n m rs rain = .ok (run rs rain n) := by unfold step; rw [if_pos h]
theorem step_inv {n m : Nat} {rs : Nat → Rc} {rain : Nat → Int} {s : St} (h : step n m rs rain = .ok s) : (Right n rs ∧ m = n ∧ RainOk n rain) ∧ s = run rs rain n := by
  by_cases k : Right n rs ∧ m = n ∧ RainOk n rain
  · rw [step_ok k] at h; cases h; exact ⟨k, rfl⟩
  · rw [step_no k] at h; cases h
open Classical in
/-- What a run tells of the sewers, where the storms are not too many: none is a fault. -/
noncomputable def runF (n M : Nat) (rs : Nat → Rc) (q : Nat → Rain) : Option RSt := if 400 < n ∨ 60 < M ∨ ¬ Right n rs then none else runs n rs q M
theorem runF_bad {n M : Nat} {rs : Nat → Rc} {q : Nat → Rain} (h : 400 < n ∨ 60 < M ∨ ¬ Right n rs) : runF n M rs q = none := by unfold runF; rw [if_pos h]
theorem runF_in {n M : Nat} {rs : Nat → Rc} {q : Nat → Rain} (h : ¬ (400 < n ∨ 60 < M ∨ ¬ Right n rs)) : runF n M rs q = runs n rs q M := by unfold runF; rw [if_neg h]
/-- The places that spill in a run. -/
noncomputable def spillF (n M : Nat) (rs : Nat → Rc) (q : Nat → Rain) : List Nat := match runF n M rs q with | none => [] | some t => spills t.tk n

end Sw
end Go.Proofs.YtokbhkcpkilcmaaDoor
