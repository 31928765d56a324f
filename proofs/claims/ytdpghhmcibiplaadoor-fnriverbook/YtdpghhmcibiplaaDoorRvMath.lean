/-
  Rivers as the document tells them: right ones, a step, what stands behind it, the book of its water. No program is named here.
-/
namespace Go.Proofs.YtdpghhmcibiplaaDoor
namespace Rv

/-- A reach. -/
structure Rc where
  st : Int
  kp : Int
  dn : Int
  tk : Int
  ls : Int

def Amounts (r : Rc) : Prop := (0 ≤ r.st ∧ r.st ≤ 1000000000) ∧ (0 ≤ r.kp ∧ r.kp ≤ 1000) ∧ (0 ≤ r.tk ∧ r.tk ≤ 1000000) ∧ (0 ≤ r.ls ∧ r.ls ≤ 1000000)
def DownOk (n i : Nat) (d : Int) : Prop := d = -1 ∨ ((i : Int) < d ∧ d < (n : Int))
/-- A right river. -/
def Right (n : Nat) (rs : Nat → Rc) : Prop := (1 ≤ n ∧ n ≤ 40) ∧ ∀ i, i < n → Amounts (rs i) ∧ DownOk n i (rs i).dn
/-- A right rain. -/
def RainOk (n : Nat) (c : Nat → Int) : Prop := ∀ i, i < n → 0 ≤ c i ∧ c i ≤ 1000000

def stays (r : Rc) (c : Int) : Int := ((r.st + c) * r.kp) / 1000
def given (r : Rc) (c : Int) : Int := r.st + c - stays r c
def taken (r : Rc) (c : Int) : Int := min r.tk (max (given r c - r.ls) 0)
def flows (r : Rc) (c : Int) : Int := given r c - taken r c

theorem stays_bounds {r : Rc} (hr : Amounts r) {c : Int} (hc : 0 ≤ c) : 0 ≤ stays r c ∧ stays r c ≤ r.st + c := by
  obtain ⟨⟨a, _⟩, ⟨k0, k1⟩, _⟩ := hr
  have hw : 0 ≤ r.st + c := by omega
  unfold stays
  generalize r.st + c = x at hw
  have h1 : 0 ≤ x * r.kp := Int.mul_nonneg hw k0
  have h2 : x * r.kp ≤ x * 1000 := Int.mul_le_mul_of_nonneg_left k1 hw
  omega

theorem share_facts {r : Rc} (hr : Amounts r) {c : Int} (hc : 0 ≤ c) :
    0 ≤ taken r c ∧ taken r c ≤ r.tk ∧ 0 ≤ flows r c ∧ (0 < taken r c → r.ls ≤ flows r c) ∧ stays r c + taken r c + flows r c = r.st + c := by
  have hb := stays_bounds hr hc
  obtain ⟨⟨a, _⟩, ⟨k0, k1⟩, ⟨t0, t1⟩, ⟨l0, l1⟩⟩ := hr
  unfold flows taken given
  generalize stays r c = y at hb
  omega

/-- What stands in a step: what comes to each, the stores, what was taken, what flows on, what came to the sea. -/
structure St where
  cs : Nat → Int
  st : Nat → Int
  tk : Nat → Int
  fl : Nat → Int
  sea : Int

def upd (f : Nat → Int) (i : Nat) (x : Int) : Nat → Int := fun j => if j = i then x else f j
theorem upd_same (f : Nat → Int) (i : Nat) (x : Int) : upd f i x i = x := if_pos rfl
theorem upd_ne (f : Nat → Int) {i j : Nat} (x : Int) (h : j ≠ i) : upd f i x j = f j := if_neg h

/-- What stands behind the reach at a place. -/
def thenSt (rs : Nat → Rc) (i : Nat) (s : St) : St :=
  ⟨if (rs i).dn = -1 then s.cs else upd s.cs (rs i).dn.toNat (s.cs (rs i).dn.toNat + flows (rs i) (s.cs i)), upd s.st i (stays (rs i) (s.cs i)), upd s.tk i (taken (rs i) (s.cs i)), upd s.fl i (flows (rs i) (s.cs i)), if (rs i).dn = -1 then s.sea + flows (rs i) (s.cs i) else s.sea⟩
def next (rs : Nat → Rc) (i : Nat) (s : St) : Option St := if 1000000000 < stays (rs i) (s.cs i) then none else some (thenSt rs i s)
def start (rs : Nat → Rc) (rain : Nat → Int) : St := ⟨rain, fun j => (rs j).st, fun _ => 0, fun _ => 0, 0⟩
/-- The step up to a place. -/
def run (rs : Nat → Rc) (rain : Nat → Int) : Nat → Option St
  | 0 => some (start rs rain)
  | i + 1 => (run rs rain i).bind (next rs i)

theorem run_none {rs : Nat → Rc} {rain : Nat → Int} {i n : Nat} (h : run rs rain i = none) (hi : i ≤ n) : run rs rain n = none := by
  induction n with
  | zero => obtain rfl : i = 0 := by omega
            exact h
  | succ n ih =>
    by_cases e : i = n + 1
    · subst e; exact h
    · show (run rs rain n).bind (next rs n) = none
      rw [ih (by omega)]; rfl
theorem run_over {rs : Nat → Rc} {rain : Nat → Int} {i n : Nat} {s : St} (h : run rs rain i = some s) (ho : 1000000000 < stays (rs i) (s.cs i)) (hi : i < n) : run rs rain n = none := by
  refine run_none (i := i + 1) ?_ hi
  show (run rs rain i).bind (next rs i) = none
  rw [h]; show next rs i s = none
  unfold next; rw [if_pos ho]
theorem run_next {rs : Nat → Rc} {rain : Nat → Int} {i : Nat} {s : St} (h : run rs rain i = some s) (ho : ¬ 1000000000 < stays (rs i) (s.cs i)) : run rs rain (i + 1) = some (thenSt rs i s) := by
  show (run rs rain i).bind (next rs i) = _
  rw [h]; show next rs i s = _
  unfold next; rw [if_neg ho]
theorem run_prev {rs : Nat → Rc} {rain : Nat → Int} {i : Nat} {s : St} (h : run rs rain (i + 1) = some s) : ∃ s0, run rs rain i = some s0 ∧ ¬ 1000000000 < stays (rs i) (s0.cs i) ∧ s = thenSt rs i s0 := by
  cases h0 : run rs rain i with
  | none => rw [run_none h0 (Nat.le_succ _)] at h; cases h
  | some s0 =>
    by_cases ho : 1000000000 < stays (rs i) (s0.cs i)
    · rw [run_over h0 ho (Nat.lt_succ_self _)] at h; cases h
    · rw [run_next h0 ho] at h
      exact ⟨s0, rfl, ho, (Option.some.inj h).symm⟩

/-- A sum of the first n. -/
def sumN (f : Nat → Int) : Nat → Int
  | 0 => 0
  | n + 1 => sumN f n + f n
theorem sumN_congr {f g : Nat → Int} {n : Nat} (h : ∀ j, j < n → f j = g j) : sumN f n = sumN g n := by
  induction n with
  | zero => rfl
  | succ n ih => show sumN f n + f n = sumN g n + g n; rw [ih (fun j hj => h j (by omega)), h n (by omega)]
theorem sumN_upd {f g : Nat → Int} {n i : Nat} (hi : i < n) (h : ∀ j, j ≠ i → g j = f j) : sumN g n = sumN f n + g i - f i := by
  induction n with
  | zero => omega
  | succ n ih =>
    show sumN g n + g n = sumN f n + f n + g i - f i
    by_cases e : i = n
    · subst e
      rw [sumN_congr (f := g) (g := f) (fun j hj => h j (by omega))]; omega
    · rw [ih (by omega), h n (fun k => e k.symm)]; omega
theorem sumN_nonneg {f : Nat → Int} {n : Nat} (h : ∀ j, j < n → 0 ≤ f j) : 0 ≤ sumN f n := by
  induction n with
  | zero => exact Int.le_refl _
  | succ n ih => show 0 ≤ sumN f n + f n; have := ih (fun j hj => h j (by omega)); have := h n (by omega); omega
theorem sumN_ge {f : Nat → Int} {n i : Nat} (h : ∀ j, j < n → 0 ≤ f j) (hi : i < n) : f i ≤ sumN f n := by
  induction n with
  | zero => omega
  | succ n ih =>
    show f i ≤ sumN f n + f n
    by_cases e : i = n
    · subst e; have := sumN_nonneg (f := f) (n := i) (fun j hj => h j (by omega)); omega
    · have := ih (fun j hj => h j (by omega)) (by omega); have := h n (by omega); omega
theorem sumN_le {f : Nat → Int} {n : Nat} {M : Int} (h : ∀ j, j < n → f j ≤ M) : sumN f n ≤ n * M := by
  induction n with
  | zero => show (0 : Int) ≤ _; simp
  | succ n ih =>
    show sumN f n + f n ≤ _
    have h1 := ih (fun j hj => h j (by omega))
    have h2 := h n (by omega)
    have e : ((n + 1 : Nat) : Int) * M = n * M + M := by rw [Int.natCast_add, Int.add_mul]; simp
    omega
theorem sumN_zero (n : Nat) : sumN (fun _ => 0) n = 0 := by
  induction n with
  | zero => rfl
  | succ n ih => show sumN _ n + 0 = 0; rw [ih]; rfl
theorem sumN_add (f g : Nat → Int) (n : Nat) : sumN (fun j => f j + g j) n = sumN f n + sumN g n := by
  induction n with
  | zero => rfl
  | succ n ih => show sumN _ n + (f n + g n) = sumN f n + f n + (sumN g n + g n); rw [ih]; omega

/-- What comes yet to places from i on. -/
def rest (i : Nat) (c : Nat → Int) : Nat → Int := fun j => if j < i then 0 else c j

/-- What holds up to a place of a step. -/
structure Inv (n : Nat) (rs : Nat → Rc) (rain : Nat → Int) (i : Nat) (s : St) : Prop where
  cs0 : ∀ j, j < n → 0 ≤ s.cs j
  st0 : ∀ j, j < n → 0 ≤ s.st j ∧ s.st j ≤ 1000000000
  tk0 : ∀ j, j < i → 0 ≤ s.tk j ∧ s.tk j ≤ (rs j).tk ∧ (0 < s.tk j → (rs j).ls ≤ s.fl j) ∧ 0 ≤ s.fl j
  tkz : ∀ j, i ≤ j → s.tk j = 0 ∧ s.fl j = 0 ∧ s.st j = (rs j).st
  sea0 : 0 ≤ s.sea
  tot : sumN s.st n + sumN (rest i s.cs) n + sumN s.tk n + s.sea = sumN (fun j => (rs j).st) n + sumN rain n

theorem inv_start {n : Nat} {rs : Nat → Rc} {rain : Nat → Int} (hr : Right n rs) (hq : RainOk n rain) : Inv n rs rain 0 (start rs rain) where
  cs0 := fun j hj => (hq j hj).1
  st0 := fun j hj => (hr.2 j hj).1.1
  tk0 := fun j hj => by omega
  tkz := fun j _ => ⟨rfl, rfl, rfl⟩
  sea0 := Int.le_refl _
  tot := by
    have e : sumN (rest 0 (start rs rain).cs) n = sumN rain n := sumN_congr (fun j _ => by show (if j < 0 then 0 else rain j) = rain j; rw [if_neg (by omega)])
    rw [e]
    show sumN (fun j => (rs j).st) n + sumN rain n + sumN (fun _ => 0) n + 0 = _
    rw [sumN_zero]; omega

theorem inv_next {n : Nat} {rs : Nat → Rc} {rain : Nat → Int} {i : Nat} {s : St} (hr : Right n rs) (hi : i < n) (h : Inv n rs rain i s) (ho : ¬ 1000000000 < stays (rs i) (s.cs i)) : Inv n rs rain (i + 1) (thenSt rs i s) := by
  obtain ⟨hA, hD⟩ := hr.2 i hi
  have hc := h.cs0 i hi
  have hb := stays_bounds hA hc
  have hf := share_facts hA hc
  obtain ⟨t0, t1, f0, f1, ft⟩ := hf
  have eS : sumN (upd s.st i (stays (rs i) (s.cs i))) n = sumN s.st n + stays (rs i) (s.cs i) - (rs i).st := by
    rw [sumN_upd (f := s.st) hi (fun j hj => upd_ne _ _ hj), upd_same, (h.tkz i (Nat.le_refl _)).2.2]
  have eT : sumN (upd s.tk i (taken (rs i) (s.cs i))) n = sumN s.tk n + taken (rs i) (s.cs i) := by
    rw [sumN_upd (f := s.tk) hi (fun j hj => upd_ne _ _ hj), upd_same, (h.tkz i (Nat.le_refl _)).1]; omega
  have eR : sumN (rest (i + 1) s.cs) n = sumN (rest i s.cs) n - s.cs i := by
    rw [sumN_upd (f := rest i s.cs) hi (fun j hj => by unfold rest; by_cases e : j < i; · rw [if_pos e, if_pos (by omega)]
                                                       · rw [if_neg e, if_neg (by omega)])]
    unfold rest; rw [if_pos (by omega), if_neg (by omega)]; omega
  have ht := h.tot
  refine ⟨?_, ?_, ?_, ?_, ?_, ?_⟩
  · intro j hj
    show 0 ≤ (if (rs i).dn = -1 then s.cs else _) j
    by_cases e : (rs i).dn = -1
    · rw [if_pos e]; exact h.cs0 j hj
    · rw [if_neg e]; unfold upd
      by_cases e2 : j = (rs i).dn.toNat
      · rw [if_pos e2]
        have := h.cs0 _ (e2 ▸ hj)
        omega
      · rw [if_neg e2]; exact h.cs0 j hj
  · intro j hj
    show 0 ≤ upd s.st i _ j ∧ upd s.st i _ j ≤ _
    by_cases e : j = i
    · subst e; rw [upd_same]; omega
    · rw [upd_ne _ _ e]; exact h.st0 j hj
  · intro j hj
    show 0 ≤ upd s.tk i _ j ∧ upd s.tk i _ j ≤ _ ∧ (0 < upd s.tk i _ j → _ ≤ upd s.fl i _ j) ∧ 0 ≤ upd s.fl i _ j
    by_cases e : j = i
    · subst e; rw [upd_same, upd_same]; exact ⟨t0, t1, f1, f0⟩
    · rw [upd_ne _ _ e, upd_ne _ _ e]; exact h.tk0 j (by omega)
  · intro j hj
    show upd s.tk i _ j = 0 ∧ upd s.fl i _ j = 0 ∧ upd s.st i _ j = _
    rw [upd_ne _ _ (by omega), upd_ne _ _ (by omega), upd_ne _ _ (by omega)]
    exact h.tkz j (by omega)
  · show 0 ≤ (if (rs i).dn = -1 then s.sea + _ else s.sea)
    have := h.sea0
    by_cases e : (rs i).dn = -1
    · rw [if_pos e]; omega
    · rw [if_neg e]; exact this
  · show sumN (upd s.st i _) n + sumN (rest (i + 1) (if (rs i).dn = -1 then s.cs else _)) n + sumN (upd s.tk i _) n + (if (rs i).dn = -1 then s.sea + _ else s.sea) = _
    rw [eS, eT]
    by_cases e : (rs i).dn = -1
    · rw [if_pos e, if_pos e, eR]; omega
    · rw [if_neg e, if_neg e]
      have hd : (i : Int) < (rs i).dn ∧ (rs i).dn < (n : Int) := by
        rcases hD with hD | hD
        · exact absurd hD e
        · exact hD
      generalize hx : (rs i).dn.toNat = x
      have hx1 : i < x ∧ x < n := by omega
      have eQ : sumN (rest (i + 1) (upd s.cs x (s.cs x + flows (rs i) (s.cs i)))) n = sumN (rest (i + 1) s.cs) n + flows (rs i) (s.cs i) := by
        rw [sumN_upd (f := rest (i + 1) s.cs) hx1.2 (fun j hj => by unfold rest; rw [upd_ne _ _ hj])]
        unfold rest; rw [if_neg (by omega), if_neg (by omega), upd_same]; omega
      rw [eQ, eR]; omega

theorem run_inv {n : Nat} {rs : Nat → Rc} {rain : Nat → Int} (hr : Right n rs) (hq : RainOk n rain) {i : Nat} (hi : i ≤ n) {s : St} (h : run rs rain i = some s) : Inv n rs rain i s := by
  induction i generalizing s with
  | zero => cases h; exact inv_start hr hq
  | succ i ih =>
    obtain ⟨s0, h0, ho, rfl⟩ := run_prev h
    exact inv_next hr (by omega) (ih (by omega) h0) ho

/-- Sums of what was ahead are bounded. -/
theorem tot_le {n : Nat} {rs : Nat → Rc} {rain : Nat → Int} (hr : Right n rs) (hq : RainOk n rain) : sumN (fun j => (rs j).st) n + sumN rain n ≤ 40040000000 := by
  have h1 : sumN (fun j => (rs j).st) n ≤ n * 1000000000 := sumN_le (fun j hj => (hr.2 j hj).1.1.2)
  have h2 : sumN rain n ≤ n * 1000000 := sumN_le (fun j hj => (hq j hj).2)
  have := hr.1.2
  omega

theorem Inv.bounds {n : Nat} {rs : Nat → Rc} {rain : Nat → Int} {i : Nat} {s : St} (h : Inv n rs rain i s) (hr : Right n rs) (hq : RainOk n rain) (_hi : i ≤ n) :
    (∀ j, i ≤ j → j < n → 0 ≤ s.cs j ∧ s.cs j ≤ 40040000000) ∧ 0 ≤ s.sea ∧ s.sea ≤ 40040000000 := by
  have ht := h.tot
  have hl := tot_le hr hq
  have p1 : 0 ≤ sumN s.st n := sumN_nonneg (fun j hj => (h.st0 j hj).1)
  have r0 : ∀ j, j < n → 0 ≤ rest i s.cs j := fun j hj => by
    unfold rest
    by_cases e : j < i
    · rw [if_pos e]; omega
    · rw [if_neg e]; exact h.cs0 j hj
  have p2 : 0 ≤ sumN (rest i s.cs) n := sumN_nonneg r0
  have p3 : 0 ≤ sumN s.tk n := sumN_nonneg (fun j hj => by
    by_cases e : j < i
    · exact (h.tk0 j e).1
    · rw [(h.tkz j (by omega)).1]; omega)
  have p4 := h.sea0
  refine ⟨fun j h1 h2 => ⟨h.cs0 j h2, ?_⟩, p4, by omega⟩
  have := sumN_ge r0 h2
  unfold rest at this
  rw [if_neg (by omega)] at this
  unfold rest at ht p2
  omega

/-- The book of a step. -/
theorem run_book {n : Nat} {rs : Nat → Rc} {rain : Nat → Int} (hr : Right n rs) (hq : RainOk n rain) {s : St} (h : run rs rain n = some s) : sumN s.st n + sumN s.tk n + s.sea = sumN (fun j => (rs j).st) n + sumN rain n := by
  have hi := run_inv hr hq (Nat.le_refl _) h
  have ht := hi.tot
  have e : sumN (rest n s.cs) n = 0 := by
    rw [sumN_congr (f := rest n s.cs) (g := fun _ => 0) (fun j hj => if_pos hj), sumN_zero]
  omega

/-- The places from which water comes to one. -/
inductive To (n : Nat) (rs : Nat → Rc) (p : Nat) : Int → Prop
  | here : To n rs p p
  | down (a : Nat) : a < n → To n rs p (rs a).dn → To n rs p a
theorem not_to_sea {n : Nat} {rs : Nat → Rc} {p : Nat} {a : Int} (ha : a < 0) : ¬ To n rs p a := fun h => by
  cases h with
  | here => omega
  | down b _ _ => omega
theorem to_down {n : Nat} {rs : Nat → Rc} {p a : Nat} (ha : a < n) (h : a ≠ p) : To n rs p a ↔ To n rs p (rs a).dn := by
  constructor
  · intro h2
    generalize e : (a : Int) = x at h2
    cases h2 with
    | here => omega
    | down b _ hb => obtain rfl : a = b := by omega
                     exact hb
  · exact To.down a ha
theorem to_le {n : Nat} {rs : Nat → Rc} {p : Nat} (hr : Right n rs) {x : Int} (h : To n rs p x) : x ≤ p := by
  induction h with
  | here => exact Int.le_refl _
  | down a e h ih =>
    rcases (hr.2 a e).2 with hd | hd
    · rw [hd] at h; exact absurd h (not_to_sea (by omega))
    · omega
open Classical in
noncomputable def toB (n : Nat) (rs : Nat → Rc) (p j : Nat) : Bool := decide (To n rs p j)
theorem toB_iff {n : Nat} {rs : Nat → Rc} {p j : Nat} : toB n rs p j = true ↔ To n rs p j := by unfold toB; simp
/-- The places from which water comes to one, rising. -/
noncomputable def above (n : Nat) (rs : Nat → Rc) (p m : Nat) : List Nat := (List.range m).filter (toB n rs p)
theorem above_succ (n : Nat) (rs : Nat → Rc) (p m : Nat) : above n rs p (m + 1) = above n rs p m ++ (if toB n rs p m = true then [m] else []) := by
  unfold above
  rw [List.range_succ, List.filter_append]
  congr 1
  by_cases h : toB n rs p m = true
  · simp [h]
  · simp [h]
theorem above_all {n : Nat} {rs : Nat → Rc} {p : Nat} (hr : Right n rs) (hp : p < n) : above n rs p n = above n rs p (p + 1) := by
  have : ∀ m, p + 1 ≤ m → above n rs p m = above n rs p (p + 1) := fun m => by
    induction m with
    | zero => intro h; omega
    | succ m ih =>
      intro h
      by_cases e : m = p
      · rw [e]
      · rw [above_succ, if_neg (fun k => by have := to_le hr (toB_iff.1 k); omega), List.append_nil, ih (by omega)]
  exact this n (by omega)

/-- The places of which less than is wanted is taken, rising. -/
def shortB (rs : Nat → Rc) (tk : Nat → Int) (j : Nat) : Bool := decide (tk j < (rs j).tk)
def short (rs : Nat → Rc) (tk : Nat → Int) (m : Nat) : List Nat := (List.range m).filter (shortB rs tk)
theorem short_succ (rs : Nat → Rc) (tk : Nat → Int) (m : Nat) : short rs tk (m + 1) = short rs tk m ++ (if tk m < (rs m).tk then [m] else []) := by
  unfold short
  rw [List.range_succ, List.filter_append]
  congr 1
  by_cases h : tk m < (rs m).tk
  · simp [h, shortB]
  · simp [h, shortB]
theorem mem_short {rs : Nat → Rc} {tk : Nat → Int} {m j : Nat} (hj : j < m) : j ∈ short rs tk m ↔ tk j < (rs j).tk := by
  unfold short shortB; simp [hj]
theorem mem_above {n : Nat} {rs : Nat → Rc} {p m j : Nat} (hj : j < m) : j ∈ above n rs p m ↔ To n rs p j := by
  unfold above; simp [hj, toB_iff]

/-- Rain that falls elsewhere than above a place changes nothing there. -/
theorem run_above {n : Nat} {rs : Nat → Rc} {c1 c2 : Nat → Int} {p : Nat} (hr : Right n rs) (hc : ∀ j, j < n → To n rs p j → c1 j = c2 j) {i : Nat} (hi : i ≤ n) {s1 s2 : St} (h1 : run rs c1 i = some s1) (h2 : run rs c2 i = some s2) :
    ∀ j, j < n → To n rs p j → s1.cs j = s2.cs j ∧ s1.st j = s2.st j ∧ s1.tk j = s2.tk j ∧ s1.fl j = s2.fl j := by
  induction i generalizing s1 s2 with
  | zero =>
    cases h1; cases h2
    exact fun j hj ht => ⟨hc j hj ht, rfl, rfl, rfl⟩
  | succ i ih =>
    obtain ⟨t1, k1, _, rfl⟩ := run_prev h1
    obtain ⟨t2, k2, _, rfl⟩ := run_prev h2
    have H := ih (by omega) k1 k2
    intro j hj ht
    have hJ := H j hj ht
    have hI : To n rs p i → t1.cs i = t2.cs i := fun k => (H i (by omega) k).1
    refine ⟨?_, ?_, ?_, ?_⟩
    · show (if (rs i).dn = -1 then t1.cs else _) j = (if (rs i).dn = -1 then t2.cs else _) j
      by_cases e : (rs i).dn = -1
      · rw [if_pos e, if_pos e]; exact hJ.1
      · rw [if_neg e, if_neg e]
        by_cases e2 : j = (rs i).dn.toNat
        · have hd : ((rs i).dn.toNat : Int) = (rs i).dn := by
            rcases (hr.2 i (by omega)).2 with hd | hd
            · exact absurd hd e
            · omega
          have hti : To n rs p i := by
            by_cases ei : i = p
            · rw [ei]; exact To.here
            · refine To.down i (by omega) ?_
              rw [← hd, ← e2]; exact ht
          rw [← e2, upd_same, upd_same, hJ.1, hI hti]
        · rw [upd_ne _ _ e2, upd_ne _ _ e2]; exact hJ.1
    · show upd t1.st i _ j = upd t2.st i _ j
      by_cases e : j = i
      · subst e; rw [upd_same, upd_same, hJ.1]
      · rw [upd_ne _ _ e, upd_ne _ _ e]; exact hJ.2.1
    · show upd t1.tk i _ j = upd t2.tk i _ j
      by_cases e : j = i
      · subst e; rw [upd_same, upd_same, hJ.1]
      · rw [upd_ne _ _ e, upd_ne _ _ e]; exact hJ.2.2.1
    · show upd t1.fl i _ j = upd t2.fl i _ j
      by_cases e : j = i
      · subst e; rw [upd_same, upd_same, hJ.1]
      · rw [upd_ne _ _ e, upd_ne _ _ e]; exact hJ.2.2.2

/-- A run: the river, the sums of what flows on and was taken, what came to the sea. -/
structure RSt where
  rs : Nat → Rc
  fl : Nat → Int
  tk : Nat → Int
  sea : Int
/-- The river behind a step. -/
def after (rs : Nat → Rc) (s : St) : Nat → Rc := fun j => { rs j with st := s.st j }
/-- A rain: how many, and which. -/
structure Rain where
  len : Nat
  at_ : Nat → Int
open Classical in
noncomputable def runs (n : Nat) (rs : Nat → Rc) (q : Nat → Rain) : Nat → Option RSt
  | 0 => some ⟨rs, fun _ => 0, fun _ => 0, 0⟩
  | k + 1 => (runs n rs q k).bind fun t => if (q k).len = n ∧ RainOk n (q k).at_ then (run t.rs (q k).at_ n).map (fun s => ⟨after t.rs s, fun j => t.fl j + s.fl j, fun j => t.tk j + s.tk j, t.sea + s.sea⟩) else none
theorem runs_none {n : Nat} {rs : Nat → Rc} {q : Nat → Rain} {k m : Nat} (h : runs n rs q k = none) (hk : k ≤ m) : runs n rs q m = none := by
  induction m with
  | zero => obtain rfl : k = 0 := by omega
            exact h
  | succ m ih =>
    by_cases e : k = m + 1
    · subst e; exact h
    · unfold runs; rw [ih (by omega)]; rfl
theorem runs_bad {n : Nat} {rs : Nat → Rc} {q : Nat → Rain} {k m : Nat} {t : RSt} (h : runs n rs q k = some t) (hb : ¬ ((q k).len = n ∧ RainOk n (q k).at_)) (hk : k < m) : runs n rs q m = none := by
  refine runs_none (k := k + 1) ?_ hk
  unfold runs; rw [h]; exact if_neg hb
open Classical in
theorem runs_over {n : Nat} {rs : Nat → Rc} {q : Nat → Rain} {k m : Nat} {t : RSt} (h : runs n rs q k = some t) (hb : run t.rs (q k).at_ n = none) (hk : k < m) : runs n rs q m = none := by
  refine runs_none (k := k + 1) ?_ hk
  unfold runs; rw [h]
  show (if _ then (run t.rs (q k).at_ n).map _ else none) = none
  rw [hb]; simp
open Classical in
theorem runs_next {n : Nat} {rs : Nat → Rc} {q : Nat → Rain} {k : Nat} {t : RSt} {s : St} (h : runs n rs q k = some t) (hb : (q k).len = n ∧ RainOk n (q k).at_) (hs : run t.rs (q k).at_ n = some s) : runs n rs q (k + 1) = some ⟨after t.rs s, fun j => t.fl j + s.fl j, fun j => t.tk j + s.tk j, t.sea + s.sea⟩ := by
  show ((runs n rs q k).bind fun t => if (q k).len = n ∧ RainOk n (q k).at_ then (run t.rs (q k).at_ n).map (fun s => RSt.mk (after t.rs s) (fun j => t.fl j + s.fl j) (fun j => t.tk j + s.tk j) (t.sea + s.sea)) else none) = _
  rw [h]
  show (if _ then (run t.rs (q k).at_ n).map _ else none) = _
  rw [if_pos hb, hs]; rfl
theorem runs_prev {n : Nat} {rs : Nat → Rc} {q : Nat → Rain} {k : Nat} {t : RSt} (h : runs n rs q (k + 1) = some t) : ∃ t0 s, runs n rs q k = some t0 ∧ ((q k).len = n ∧ RainOk n (q k).at_) ∧ run t0.rs (q k).at_ n = some s ∧ t = ⟨after t0.rs s, fun j => t0.fl j + s.fl j, fun j => t0.tk j + s.tk j, t0.sea + s.sea⟩ := by
  cases h0 : runs n rs q k with
  | none => rw [runs_none h0 (Nat.le_succ _)] at h; cases h
  | some t0 =>
    by_cases hb : (q k).len = n ∧ RainOk n (q k).at_
    · cases hs : run t0.rs (q k).at_ n with
      | none => rw [runs_over h0 hs (Nat.lt_succ_self _)] at h; cases h
      | some s =>
        rw [runs_next h0 hb hs] at h
        exact ⟨t0, s, rfl, hb, hs, (Option.some.inj h).symm⟩
    · rw [runs_bad h0 hb (Nat.lt_succ_self _)] at h; cases h
theorem right_after {n : Nat} {rs : Nat → Rc} {rain : Nat → Int} (hr : Right n rs) (hq : RainOk n rain) {s : St} (h : run rs rain n = some s) : Right n (after rs s) :=
  ⟨hr.1, fun i hi => ⟨⟨(run_inv hr hq (Nat.le_refl _) h).st0 i hi, (hr.2 i hi).1.2⟩, (hr.2 i hi).2⟩⟩
/-- All rain up to a step. -/
def rainSum (n : Nat) (q : Nat → Rain) : Nat → Int
  | 0 => 0
  | k + 1 => rainSum n q k + sumN (q k).at_ n
/-- The book of a run, and how great its sums may be. -/
theorem runs_book {n : Nat} {rs : Nat → Rc} {q : Nat → Rain} (hr : Right n rs) {k : Nat} {t : RSt} (h : runs n rs q k = some t) :
    Right n t.rs ∧ sumN (fun j => (t.rs j).st) n + sumN t.tk n + t.sea = sumN (fun j => (rs j).st) n + rainSum n q k ∧ (0 ≤ t.sea ∧ t.sea ≤ k * 40040000000) ∧ ∀ j, j < n → (0 ≤ t.tk j ∧ t.tk j ≤ k * 1000000) ∧ (0 ≤ t.fl j ∧ t.fl j ≤ k * 41040000000) := by
  induction k generalizing t with
  | zero =>
    cases h
    refine ⟨hr, ?_, ⟨Int.le_refl _, by simp⟩, fun j _ => ⟨⟨Int.le_refl _, by simp⟩, ⟨Int.le_refl _, by simp⟩⟩⟩
    show sumN _ n + sumN (fun _ => 0) n + 0 = _ + 0
    rw [sumN_zero]
    show sumN (fun j => (rs j).st) n + 0 + 0 = _
    omega
  | succ k ih =>
    obtain ⟨t0, s, h0, hb, hs, rfl⟩ := runs_prev h
    obtain ⟨hr0, hbk, ⟨e0, e1⟩, hf⟩ := ih h0
    have hI := run_inv hr0 hb.2 (Nat.le_refl _) hs
    have hB := hI.bounds hr0 hb.2 (Nat.le_refl _)
    have hK := run_book hr0 hb.2 hs
    have ek : ((k + 1 : Nat) : Int) = k + 1 := by omega
    refine ⟨right_after hr0 hb.2 hs, ?_, ⟨?_, ?_⟩, fun j hj => ?_⟩
    · show sumN (fun j => s.st j) n + sumN (fun j => t0.tk j + s.tk j) n + (t0.sea + s.sea) = _ + (rainSum n q k + sumN (q k).at_ n)
      rw [sumN_add]
      show sumN s.st n + _ + _ = _
      omega
    · show 0 ≤ t0.sea + s.sea
      omega
    · show t0.sea + s.sea ≤ _
      rw [ek]; omega
    · obtain ⟨⟨a0, a1⟩, ⟨b0, b1⟩⟩ := hf j hj
      obtain ⟨c0, c1, _, c3⟩ := hI.tk0 j hj
      have c2 := (hr0.2 j hj).1.2.2.1.2
      have hfl : s.fl j ≤ 41040000000 := fl_le hr0 hb.2 hs j hj
      show (0 ≤ t0.tk j + s.tk j ∧ t0.tk j + s.tk j ≤ _) ∧ (0 ≤ t0.fl j + s.fl j ∧ t0.fl j + s.fl j ≤ _)
      rw [ek]
      refine ⟨⟨?_, ?_⟩, ⟨?_, ?_⟩⟩ <;> omega
where
  fl_le {n : Nat} {rs : Nat → Rc} {rain : Nat → Int} (hr : Right n rs) (hq : RainOk n rain) {s : St} (h : run rs rain n = some s) (j : Nat) (hj : j < n) : s.fl j ≤ 41040000000 := by
    have key : ∀ i, i ≤ n → ∀ s : St, run rs rain i = some s → ∀ j, j < i → s.fl j ≤ 41040000000 := by
      intro i
      induction i with
      | zero => intro _ s _ j hj; omega
      | succ i ih =>
        intro hi s h j hj
        obtain ⟨s0, h0, ho, rfl⟩ := run_prev h
        show upd s0.fl i _ j ≤ _
        by_cases e : j = i
        · subst e
          rw [upd_same]
          have hI := run_inv hr hq (by omega) h0
          have hB := (hI.bounds hr hq (by omega)).1 j (Nat.le_refl _) (by omega)
          have hA := (hr.2 j (by omega)).1
          have := share_facts hA hB.1
          have := stays_bounds hA hB.1
          have := hA.1.2
          omega
        · rw [upd_ne _ _ e]; exact ih (by omega) s0 h0 j (by omega)
    exact key n (Nat.le_refl _) s h j hj

end Rv
end Go.Proofs.YtdpghhmcibiplaaDoor
