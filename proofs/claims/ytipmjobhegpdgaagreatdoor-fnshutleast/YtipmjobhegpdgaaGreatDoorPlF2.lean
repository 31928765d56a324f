/-
  A search ahead from the sources over rows with room, and one more way taken: mathematics.
-/
import Derived.Test.YtipmjobhegpdgaaGreatDoorPlF1
namespace Go.Proofs.YtipmjobhegpdgaaGreatDoor
open Go.RowKit Go.Deep
namespace Fl
/-- How many of the first are nought. -/
def zer (cm : Nat → Int) : Nat → Nat := cntN (fun v => if cm v = 0 then -1 else 0)
theorem zer_put {cm : Nat → Int} {n v : Nat} {x : Int} (hv : v < n) (h : cm v = 0) (hx : x ≠ 0) : zer (updI cm v x) n + 1 = zer cm n := by
  unfold zer
  rw [← cntN_put (f := fun v => if cm v = 0 then -1 else 0) (x := 0) hv (by simp [h]) (by omega)]
  congr 1
  refine cntN_congr (fun j _ => ?_)
  unfold updI
  by_cases e : j = v
  · simp [e, hx]
  · simp [e]
theorem zer_none (n : Nat) : zer (fun _ => 0) n = n := by
  unfold zer
  induction n with
  | zero => rfl
  | succ n ih => show cntN _ n + _ = n + 1; rw [ih]; rfl
/-- What stands in the search: reached ones are in the list; the first d of it were gone through, of the next one the rows below e. -/
structure Sf (p : Pl.Plan) (fl : Nat → Int) (cm : Nat → Int) (q : List Nat) (rk : Nat → Nat) (T d e : Nat) : Prop where
  rng : ∀ v, v < p.hn → cm v = 0 ∨ cm v = -1 ∨ (1 ≤ cm v ∧ cm v ≤ p.rn)
  src : ∀ v, v < p.hn → (cm v = -1 ↔ isSrc p v)
  val : ∀ v, v < p.hn → 1 ≤ cm v → ∃ u, u < p.hn ∧ roomR p fl (cm v - 1).toNat u v ∧ cm u ≠ 0 ∧ rk u < rk v
  que : ∀ v, v ∈ q ↔ v < p.hn ∧ cm v ≠ 0
  low : ∀ v, v < p.hn → cm v ≠ 0 → rk v ≤ T
  len : q.length + zer cm p.hn = p.hn
  done : ∀ j u, j < d → q[j]? = some u → ∀ b, b < p.hn → RoomP p fl u b → cm b ≠ 0
  part : ∀ u, q[d]? = some u → ∀ i, i < e → i < p.rn → ∀ b, b < p.hn → roomR p fl i u b → cm b ≠ 0
theorem Sf.put {p : Pl.Plan} {fl cm : Nat → Int} {q : List Nat} {rk : Nat → Nat} {T d e i u v : Nat} (h : Sf p fl cm q rk T d e) (hu : u < p.hn) (hv : v < p.hn) (hi : i < p.rn) (hcu : cm u ≠ 0) (hcv : cm v = 0) (hR : roomR p fl i u v) (hd : d < q.length) :
    Sf p fl (updI cm v ((i : Int) + 1)) (q ++ [v]) (fun x => if x = v then T + 1 else rk x) (T + 1) d e := by
  have up : ∀ x, x ≠ v → updI cm v ((i : Int) + 1) x = cm x := fun x hx => by unfold updI; rw [if_neg hx]
  have uv : updI cm v ((i : Int) + 1) v = (i : Int) + 1 := by unfold updI; rw [if_pos rfl]
  have ne : ∀ x, cm x ≠ 0 → x ≠ v := fun x hx e => hx (e ▸ hcv)
  have keep : ∀ x, cm x ≠ 0 → updI cm v ((i : Int) + 1) x ≠ 0 := fun x hx => by rw [up x (ne x hx)]; exact hx
  have hvq : v ∉ q := fun x => ((h.que v).1 x).2 hcv
  refine ⟨fun x hx => ?_, fun x hx => ?_, fun x hx h1 => ?_, fun x => ?_, fun x hx h1 => ?_, ?_, fun j y hj hy b hb hr => ?_, fun y hy i' hi' hir b hb hr => ?_⟩
  · by_cases e : x = v
    · subst e; rw [uv]; right; right; omega
    · rw [up x e]; exact h.rng x hx
  · by_cases e : x = v
    · subst e; rw [uv]
      constructor
      · intro z; omega
      · intro z; have := (h.src x hx).2 z; rw [hcv] at this; omega
    · rw [up x e]; exact h.src x hx
  · by_cases e : x = v
    · subst e
      rw [uv]
      have e2 : ((i : Int) + 1 - 1).toNat = i := by omega
      rw [e2]
      refine ⟨u, hu, hR, keep u hcu, ?_⟩
      simp only [if_true, if_neg (ne u hcu)]
      have := h.low u hu hcu
      omega
    · rw [up x e] at h1 ⊢
      obtain ⟨y, h2, h3, h4, h5⟩ := h.val x hx h1
      refine ⟨y, h2, h3, keep y h4, ?_⟩
      simp only [if_neg (ne y h4), if_neg e]; exact h5
  · rw [List.mem_append, h.que]
    by_cases e : x = v
    · subst e; rw [uv]; simp [hv]; omega
    · rw [up x e]; simp [e]
  · by_cases e : x = v
    · simp [e]
    · rw [up x e] at h1
      simp only [if_neg e]
      have := h.low x hx h1
      omega
  · have := zer_put (cm := cm) (x := (i : Int) + 1) hv hcv (by omega)
    have := h.len
    simp only [List.length_append, List.length_singleton]
    omega
  · rw [List.getElem?_append_left (by omega)] at hy
    exact keep b (h.done j y hj hy b hb hr)
  · rw [List.getElem?_append_left hd] at hy
    exact keep b (h.part y hy i' hi' hir b hb hr)
/-- The next row of the one that is gone through. -/
theorem Sf.row {p : Pl.Plan} {fl cm : Nat → Int} {q : List Nat} {rk : Nat → Nat} {T d e u : Nat} (h : Sf p fl cm q rk T d e) (hu : q[d]? = some u) (hk : ∀ b, b < p.hn → roomR p fl e u b → cm b ≠ 0) : Sf p fl cm q rk T d (e + 1) :=
  ⟨h.rng, h.src, h.val, h.que, h.low, h.len, h.done, fun y hy i hi hir b hb hr => by
    rw [hu] at hy
    cases hy
    by_cases z : i = e
    · subst z; exact hk b hb hr
    · exact h.part u hu i (by omega) hir b hb hr⟩
/-- The next one of the list. -/
theorem Sf.next {p : Pl.Plan} {fl cm : Nat → Int} {q : List Nat} {rk : Nat → Nat} {T d : Nat} (h : Sf p fl cm q rk T d p.rn) : Sf p fl cm q rk T (d + 1) 0 :=
  ⟨h.rng, h.src, h.val, h.que, h.low, h.len, fun j u hj hu b hb hR => by
    by_cases z : j = d
    · subst z
      obtain ⟨i, hi, hr⟩ := hR
      exact h.part u hu i hi hi b hb hr
    · exact h.done j u (by omega) hu b hb hR, fun _ _ i hi => absurd hi (Nat.not_lt_zero _)⟩
/-- When all were gone through, what is reached is closed. -/
theorem Sf.closed {p : Pl.Plan} {fl cm : Nat → Int} {q : List Nat} {rk : Nat → Nat} {T d e : Nat} (h : Sf p fl cm q rk T d e) (hd : q.length ≤ d) : ∀ a b, a < p.hn → b < p.hn → RoomP p fl a b → cm a ≠ 0 → cm b ≠ 0 := fun a b ha hb hR hca => by
  obtain ⟨j, hj, e⟩ := List.getElem_of_mem ((h.que a).2 ⟨ha, hca⟩)
  exact h.done j a (by omega) (by rw [List.getElem?_eq_getElem hj, e]) b hb hR
theorem Sf.short {p : Pl.Plan} {fl cm : Nat → Int} {q : List Nat} {rk : Nat → Nat} {T d e : Nat} (h : Sf p fl cm q rk T d e) : q.length ≤ p.hn := by have := h.len; omega
/-- The first sources are reached. -/
structure Ss (p : Pl.Plan) (cm : Nat → Int) (q : List Nat) (i : Nat) : Prop where
  c0 : ∀ v, v < p.hn → (cm v = -1 ∧ ∃ j, j < i ∧ p.S j = (v : Int)) ∨ (cm v = 0 ∧ ¬ ∃ j, j < i ∧ p.S j = (v : Int))
  que : ∀ v, v ∈ q ↔ v < p.hn ∧ cm v ≠ 0
  len : q.length + zer cm p.hn = p.hn
theorem Ss.nil (p : Pl.Plan) : Ss p (fun _ => 0) [] 0 := ⟨fun v _ => Or.inr ⟨rfl, fun ⟨j, hj, _⟩ => absurd hj (Nat.not_lt_zero _)⟩, fun v => by simp, by rw [zer_none]; simp⟩
theorem rise_lt {m top : Nat} {f : Nat → Int} (h : Pl.Rising m f top) : ∀ i j, i < j → j < m → f i < f j := by
  intro i j hij
  induction j with
  | zero => omega
  | succ j ih =>
    intro hj
    have h1 := (h (j + 1) hj).2 (by omega)
    simp at h1
    by_cases e : i = j
    · subst e; exact h1
    · have := ih (by omega) (by omega); omega
theorem Ss.put {p : Pl.Plan} (hr : Pl.Right p) {cm : Nat → Int} {q : List Nat} {i : Nat} (h : Ss p cm q i) (hi : i < p.sn) : Ss p (updI cm (p.S i).toNat (-1)) (q ++ [(p.S i).toNat]) (i + 1) := by
  have h0 := (hr.s i hi).1
  have hv : (p.S i).toNat < p.hn := by omega
  have hz : cm (p.S i).toNat = 0 := by
    rcases h.c0 _ hv with ⟨_, j, hj, e⟩ | ⟨e, _⟩
    · have := rise_lt hr.s j i hj hi; omega
    · exact e
  refine ⟨fun v hvl => ?_, fun v => ?_, ?_⟩
  · unfold updI
    by_cases e : v = (p.S i).toNat
    · rw [if_pos e]; exact Or.inl ⟨rfl, i, by omega, by omega⟩
    · rw [if_neg e]
      rcases h.c0 v hvl with ⟨h1, j, hj, h2⟩ | ⟨h1, h2⟩
      · exact Or.inl ⟨h1, j, by omega, h2⟩
      · refine Or.inr ⟨h1, fun ⟨j, hj, h3⟩ => ?_⟩
        by_cases ej : j = i
        · subst ej; omega
        · exact h2 ⟨j, by omega, h3⟩
  · rw [List.mem_append, h.que]
    unfold updI
    by_cases e : v = (p.S i).toNat
    · rw [if_pos e]; simp [e, hv]
    · rw [if_neg e]; simp [e]
  · have := zer_put (cm := cm) (x := -1) hv hz (by omega)
    have := h.len
    simp only [List.length_append, List.length_singleton]
    omega
theorem Ss.sf {p : Pl.Plan} {fl cm : Nat → Int} {q : List Nat} (h : Ss p cm q p.sn) : Sf p fl cm q (fun _ => 0) 0 0 0 := by
  refine ⟨fun v hv => ?_, fun v hv => ?_, fun v hv h1 => ?_, h.que, fun _ _ _ => Nat.le_refl _, h.len, fun j _ hj => absurd hj (Nat.not_lt_zero _), fun _ _ i hi => absurd hi (Nat.not_lt_zero _)⟩
  · rcases h.c0 v hv with ⟨e, _⟩ | ⟨e, _⟩
    · exact Or.inr (Or.inl e)
    · exact Or.inl e
  · rcases h.c0 v hv with ⟨e, j, hj, k⟩ | ⟨e, k⟩
    · exact ⟨fun _ => ⟨j, hj, k⟩, fun _ => e⟩
    · exact ⟨fun x => by rw [e] at x; omega, fun ⟨j, hj, x⟩ => absurd ⟨j, hj, x⟩ k⟩
  · rcases h.c0 v hv with ⟨e, _⟩ | ⟨e, _⟩ <;> omega
/-- A way that is being taken, from its end back. -/
structure Aug (p : Pl.Plan) (t : Nat) (fl cm : Nat → Int) (rk : Nat → Nat) (cur : Nat → Int) (x k : Nat) : Prop where
  net : ∀ a, a < p.hn → ¬ isSrc p a → Fl.net p cur a = (if a = x then 1 else 0) - (if a = t then (k : Int) + 1 else 0)
  same : ∀ v, v < p.hn → 1 ≤ cm v → rk v ≤ rk x → cur (cm v - 1).toNat = fl (cm v - 1).toNat
  near : ∀ i, i < p.rn → fl i - 1 ≤ cur i ∧ cur i ≤ fl i + 1
  most : ∀ i, i < p.rn → - cap p i ≤ cur i ∧ cur i ≤ cap p i
  lt : x < p.hn
  reach : cm x ≠ 0
theorem Aug.start {p : Pl.Plan} {t : Nat} {fl cm : Nat → Int} {rk : Nat → Nat} {k : Nat} (h : RF p t fl k) (ht : t < p.hn) (hc : cm t ≠ 0) : Aug p t fl cm rk fl t k := by
  refine ⟨fun a ha hs => ?_, fun _ _ _ _ => rfl, fun i _ => by omega, h.most, ht, hc⟩
  rw [h.net a ha hs]
  split <;> omega
/-- The row by which a reached place was reached, and whence. -/
theorem Aug.step {p : Pl.Plan} (hr : Pl.Right p) {t : Nat} {fl cm : Nat → Int} {q : List Nat} {rk : Nat → Nat} {T d e : Nat} (hS : Sf p fl cm q rk T d e) {cur : Nat → Int} {x k : Nat} (h : Aug p t fl cm rk cur x k) (hc : 1 ≤ cm x) :
    ∃ i u, i < p.rn ∧ cm x = (i : Int) + 1 ∧ u < p.hn ∧ rk u < rk x ∧ ((p.from_ i = u ∧ p.to_ i = x ∧ Aug p t fl cm rk (updI cur i (cur i + 1)) u k) ∨ (p.from_ i = x ∧ p.to_ i = u ∧ Aug p t fl cm rk (updI cur i (cur i - 1)) u k)) := by
  obtain ⟨u, hu, hR, hcu, hrk⟩ := hS.val x h.lt hc
  have hcr := hS.rng x h.lt
  obtain ⟨i, hi⟩ : ∃ i : Nat, cm x = (i : Int) + 1 := ⟨(cm x - 1).toNat, by omega⟩
  have hin : i < p.rn := by omega
  have hii : (cm x - 1).toNat = i := by omega
  rw [hii] at hR
  have hsame := h.same x h.lt hc (Nat.le_refl _)
  rw [hii] at hsame
  have hne := hr.ne hin
  have hn := h.near i hin
  have hm := h.most i hin
  -- the rows still ahead are other ones
  have other : ∀ v, v < p.hn → 1 ≤ cm v → rk v ≤ rk u → (cm v - 1).toNat ≠ i := fun v hv h1 h2 hvi => by
    obtain ⟨y, hy, hRy, hcy, hry⟩ := hS.val v hv h1
    rw [hvi] at hRy
    have hvx : v ≠ x := fun z => by subst z; omega
    have hyx : v = u → y = x := fun z => by
      subst z
      unfold roomR at hR hRy
      omega
    have : v = u := by
      unfold roomR at hR hRy
      omega
    have := hyx this
    subst this
    omega
  refine ⟨i, u, hin, hi, hu, hrk, ?_⟩
  have mk : ∀ s : Int, ((p.from_ i = u ∧ p.to_ i = x ∧ s = 1) ∨ (p.from_ i = x ∧ p.to_ i = u ∧ s = -1)) → (- cap p i ≤ cur i + s ∧ cur i + s ≤ cap p i) → Aug p t fl cm rk (updI cur i (cur i + s)) u k := by
    intro s hs hcap
    refine ⟨fun a ha hsa => ?_, fun v hv h1 h2 => ?_, fun j hj => ?_, fun j hj => ?_, hu, hcu⟩
    · rw [net_upd hin, h.net a ha hsa]
      have e1 : cur i + s - cur i = s := by omega
      rw [e1]
      rcases hs with ⟨a1, a2, a3⟩ | ⟨a1, a2, a3⟩
      · rw [a1, a2, a3]
        by_cases c1 : a = x <;> by_cases c2 : a = u <;> simp only [c1, c2, if_true, if_false] <;> (repeat' split) <;> omega
      · rw [a1, a2, a3]
        by_cases c1 : a = x <;> by_cases c2 : a = u <;> simp only [c1, c2, if_true, if_false] <;> (repeat' split) <;> omega
    · have := other v hv h1 h2
      unfold updI
      rw [if_neg this]
      exact h.same v hv h1 (by omega)
    · unfold updI
      by_cases z : j = i
      · subst z; rw [if_pos rfl]; rcases hs with ⟨_, _, a3⟩ | ⟨_, _, a3⟩ <;> omega
      · rw [if_neg z]; exact h.near j hj
    · unfold updI
      by_cases z : j = i
      · subst z; rw [if_pos rfl]; exact hcap
      · rw [if_neg z]; exact h.most j hj
  rcases hR with ⟨a1, a2, a3⟩ | ⟨a1, a2, a3⟩
  · exact Or.inl ⟨a1, a2, mk 1 (Or.inl ⟨a1, a2, rfl⟩) (by rw [hsame] at *; omega)⟩
  · exact Or.inr ⟨a1, a2, mk (-1) (Or.inr ⟨a1, a2, rfl⟩) (by rw [hsame] at *; omega)⟩
theorem Aug.stop {p : Pl.Plan} {t k : Nat} {fl cm : Nat → Int} {q : List Nat} {rk : Nat → Nat} {T d e : Nat} (hS : Sf p fl cm q rk T d e) (h0 : RF p t fl k) {cur : Nat → Int} {x : Nat} (h : Aug p t fl cm rk cur x k) (hc : ¬ 1 ≤ cm x) : RF p t cur (k + 1) := by
  have hr := hS.rng x h.lt
  have hcx := h.reach
  have hsx := (hS.src x h.lt).1 (by omega)
  refine ⟨h.most, fun i hi => ?_, fun a ha hsa => ?_⟩
  · have h1 := h.near i hi
    have h2 := h0.low i hi
    omega
  · rw [h.net a ha hsa, if_neg (show ¬ a = x from fun z => hsa (by rw [z]; exact hsx))]
    split <;> omega
theorem RF.zero (p : Pl.Plan) (t : Nat) : RF p t (fun _ => 0) 0 := by
  refine ⟨fun i _ => by unfold cap; split <;> omega, fun i _ => by omega, fun a _ _ => ?_⟩
  have : Fl.net p (fun _ => 0) a = 0 := by
    unfold Fl.net
    refine sm_zero (fun i _ => ?_)
    unfold outR
    split <;> split <;> rfl
  rw [this]
  split <;> rfl
end Fl
end Go.Proofs.YtipmjobhegpdgaaGreatDoor
