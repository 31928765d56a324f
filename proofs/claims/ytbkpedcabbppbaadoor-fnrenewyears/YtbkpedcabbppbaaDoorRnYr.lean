/-
  Renewals over years: which places are left, which are taken: mathematics.
-/
import Derived.Test.YtbkpedcabbppbaaDoorRnMath
namespace Go.Proofs.YtbkpedcabbppbaaDoor
open Go.RowKit Go.Deep

namespace Rn
/-- The assets at some places. -/
def sub (f : Nat → Int) (L : List Nat) (j : Nat) : Int := f (L.getD (j / 2) 0 * 2 + j % 2)
theorem sub_at (f : Nat → Int) (L : List Nat) (i : Nat) : sub f L (i * 2) = f (L.getD i 0 * 2) := by unfold sub; rw [show i * 2 / 2 = i by omega, show i * 2 % 2 = 0 by omega]; rfl
theorem sub_at1 (f : Nat → Int) (L : List Nat) (i : Nat) : sub f L (i * 2 + 1) = f (L.getD i 0 * 2 + 1) := by unfold sub; rw [show (i * 2 + 1) / 2 = i by omega, show (i * 2 + 1) % 2 = 1 by omega]
theorem getD_mem {L : List Nat} {i : Nat} (h : i < L.length) : L.getD i 0 ∈ L := by
  rw [List.getD_eq_getElem?_getD, List.getElem?_eq_getElem h]
  simp
theorem sub_right {f : Nat → Int} {n : Nat} {L : List Nat} (h : Right n f) (hL : ∀ x, x ∈ L → x < n) (hl : L.length ≤ n) : Right L.length (sub f L) := by
  refine ⟨Nat.le_trans hl h.1, fun i hi => ?_⟩
  rw [sub_at, sub_at1]
  exact h.2 _ (hL _ (getD_mem hi))
/-- The ones at the picks, and those at none. -/
def tkn (L P : List Nat) : List Nat := P.map (fun j => L.getD j 0)
def untTo (L P : List Nat) (i : Nat) : List Nat := ((List.range i).filter (fun j => !P.contains j)).map (fun j => L.getD j 0)
def unt (L P : List Nat) : List Nat := untTo L P L.length
theorem untTo_yes {L P : List Nat} {i : Nat} (h : P.contains i = true) : untTo L P (i + 1) = untTo L P i := by unfold untTo; rw [List.range_succ, List.filter_append]; simp only [List.filter_cons, h, List.filter_nil]; simp
theorem untTo_no {L P : List Nat} {i : Nat} (h : P.contains i = false) : untTo L P (i + 1) = untTo L P i ++ [L.getD i 0] := by unfold untTo; rw [List.range_succ, List.filter_append]; simp only [List.filter_cons, h, List.filter_nil]; simp
theorem untTo_len (L P : List Nat) (i : Nat) : (untTo L P i).length ≤ i := by
  unfold untTo
  rw [List.length_map]
  exact Nat.le_trans (List.length_filter_le _ _) (by simp)
def pk (f : Nat → Int) (L : List Nat) (z : Int) : List Nat := picks (sub f L) L.length z.toNat
/-- The places left ahead of a year, the year's own, and all that are done. -/
def rem (f : Nat → Int) (n : Nat) (b : Nat → Int) : Nat → List Nat
  | 0 => List.range n
  | y + 1 => unt (rem f n b y) (pk f (rem f n b y) (b y))
def own (f : Nat → Int) (n : Nat) (b : Nat → Int) (y : Nat) : List Nat := tkn (rem f n b y) (pk f (rem f n b y) (b y))
def done (f : Nat → Int) (n : Nat) (b : Nat → Int) : Nat → List Nat
  | 0 => []
  | y + 1 => done f n b y ++ own f n b y
theorem unt_sorted {L P : List Nat} (h : L.Pairwise (· < ·)) : (unt L P).Pairwise (· < ·) := by
  have key : ∀ i, i ≤ L.length → untTo L P i = ((L.take i).zipIdx.filter (fun p => !P.contains p.2)).map (·.1) := by
    intro i
    induction i with
    | zero => intro _; simp [untTo]
    | succ i ih =>
      intro hi
      have e : L.take (i + 1) = L.take i ++ [L[i]'(by omega)] := by rw [List.take_succ_eq_append_getElem]
      have hl : (L.take i).length = i := by rw [List.length_take]; omega
      have hg : L.getD i 0 = L[i]'(by omega) := by rw [List.getD_eq_getElem?_getD, List.getElem?_eq_getElem (by omega)]; rfl
      rw [e, List.zipIdx_append, List.filter_append, List.map_append, ← ih (by omega), hl]
      cases hc : P.contains i with
      | true => rw [untTo_yes hc]; simp [List.zipIdx_cons, List.contains_iff_mem.1 hc]
      | false =>
        have hm : ¬ i ∈ P := fun q => by rw [List.contains_iff_mem.2 q] at hc; cases hc
        rw [untTo_no hc, hg]; simp [List.zipIdx_cons, hm]
  unfold unt
  rw [key _ (Nat.le_refl _), List.take_length]
  refine List.Pairwise.map _ (R := fun p q : Nat × Nat => p.1 < q.1) (fun _ _ h => h) (List.Pairwise.filter _ ?_)
  have : (L.zipIdx.map (·.1)).Pairwise (· < ·) := by simpa [List.zipIdx_map_fst] using h
  rw [List.pairwise_map] at this
  exact this
theorem unt_mem {L P : List Nat} {x : Nat} (h : x ∈ unt L P) : x ∈ L := by
  unfold unt untTo at h
  simp only [List.mem_map, List.mem_filter, List.mem_range] at h
  obtain ⟨j, ⟨hj, _⟩, rfl⟩ := h
  exact getD_mem hj
theorem rem_inv (f : Nat → Int) (n : Nat) (b : Nat → Int) (y : Nat) : (rem f n b y).Pairwise (· < ·) ∧ (∀ x, x ∈ rem f n b y → x < n) ∧ (rem f n b y).length ≤ n := by
  induction y with
  | zero => exact ⟨List.pairwise_lt_range, fun x hx => List.mem_range.1 hx, by simp [rem]⟩
  | succ y ih => exact ⟨unt_sorted ih.1, fun x hx => ih.2.1 x (unt_mem hx), Nat.le_trans (untTo_len _ _ _) ih.2.2⟩
theorem rem_right {f : Nat → Int} {n : Nat} (h : Right n f) (b : Nat → Int) (y : Nat) : Right (rem f n b y).length (sub f (rem f n b y)) := sub_right h (rem_inv f n b y).2.1 (rem_inv f n b y).2.2
theorem nodup_of {L : List Nat} (h : L.Pairwise (· < ·)) {i j : Nat} (hi : i < L.length) (hj : j < L.length) (e : L.getD i 0 = L.getD j 0) : i = j := by
  rw [List.pairwise_iff_getElem] at h
  rw [List.getD_eq_getElem?_getD, List.getD_eq_getElem?_getD, List.getElem?_eq_getElem hi, List.getElem?_eq_getElem hj] at e
  simp only [Option.getD_some] at e
  rcases Nat.lt_trichotomy i j with q | q | q
  · have := h i j hi hj q; omega
  · exact q
  · have := h j i hj hi q; omega
theorem list_eq (L : List Nat) : L = (List.range L.length).map (fun j => L.getD j 0) := by
  apply List.ext_getElem
  · simp
  · intro i h1 h2
    simp [List.getD_eq_getElem?_getD, List.getElem?_eq_getElem h1]
theorem picks_lt {f : Nat → Int} {n b : Nat} (h : Right n f) {x : Nat} (hx : x ∈ picks f n b) : x < n := by
  obtain ⟨i, hi, rfl⟩ := List.getElem_of_mem hx
  have := (picks_rise (b := b) h i hi).1.2
  unfold nf at this
  rw [List.getD_eq_getElem?_getD, List.getElem?_eq_getElem hi] at this
  simp only [Option.getD_some] at this
  omega
/-- Those at no pick are those that are not taken. -/
theorem unt_filter {L P : List Nat} (h : L.Pairwise (· < ·)) (hP : ∀ x, x ∈ P → x < L.length) : L.filter (fun x => !(tkn L P).contains x) = unt L P := by
  conv => lhs; rw [list_eq L]
  rw [List.filter_map]
  unfold unt untTo
  rw [← list_eq L]
  congr 1
  apply List.filter_congr
  intro j hj
  rw [List.mem_range] at hj
  simp only [Function.comp]
  congr 1
  rw [Bool.eq_iff_iff, List.contains_iff_mem, List.contains_iff_mem]
  unfold tkn
  rw [List.mem_map]
  constructor
  · rintro ⟨k, hk, e⟩
    rw [nodup_of h hj (hP k hk) e.symm]
    exact hk
  · intro q
    exact ⟨j, q, rfl⟩
theorem rem_filter {f : Nat → Int} {n : Nat} (h : Right n f) (b : Nat → Int) (y : Nat) : (List.range n).filter (fun i => !(done f n b y).contains i) = rem f n b y := by
  induction y with
  | zero => simp [done, rem]
  | succ y ih =>
    show _ = unt _ _
    rw [← unt_filter (P := pk f (rem f n b y) (b y)) (rem_inv f n b y).1 (fun x hx => picks_lt (rem_right h b y) hx)]
    conv => rhs; rw [← ih]
    rw [List.filter_filter]
    apply List.filter_congr
    intro j _
    simp only [done]
    rw [show own f n b y = tkn (rem f n b y) (pk f (rem f n b y) (b y)) from rfl, ← ih]
    rw [Bool.eq_iff_iff]
    simp [and_comm]
theorem own_len (f : Nat → Int) (n : Nat) (b : Nat → Int) (y : Nat) : (own f n b y).length ≤ n := by
  unfold own tkn
  rw [List.length_map]
  exact Nat.le_trans (picks_len _ _ _) (rem_inv f n b y).2.2
theorem done_len (f : Nat → Int) (n : Nat) (b : Nat → Int) (y : Nat) : (done f n b y).length ≤ y * n := by
  induction y with
  | zero => simp [done]
  | succ y ih =>
    simp only [done, List.length_append]
    have := own_len f n b y
    have e : (y + 1) * n = y * n + n := Nat.succ_mul _ _
    omega
/-- What is taken in a year was not done. -/
theorem own_new {f : Nat → Int} {n : Nat} (h : Right n f) (b : Nat → Int) (y : Nat) {x : Nat} (hx : x ∈ own f n b y) : x ∉ done f n b y := by
  unfold own tkn at hx
  rw [List.mem_map] at hx
  obtain ⟨j, hj, rfl⟩ := hx
  have h1 := picks_lt (rem_right h b y) hj
  have h2 := getD_mem h1
  rw [← rem_filter h b y, List.mem_filter] at h2
  rw [rem_filter h b y] at h2
  intro q
  have := h2.2
  rw [List.contains_iff_mem.2 q] at this
  cases this
theorem nf_tkn {L P : List Nat} {j : Nat} (h : j < P.length) : nf (tkn L P) j = ((L.getD (nf P j).toNat 0 : Nat) : Int) := by
  unfold nf tkn
  simp [List.getD_eq_getElem?_getD, List.getElem?_eq_getElem h]
/-- A year's own are right picks. -/
theorem own_rise {f : Nat → Int} {n : Nat} (h : Right n f) (b : Nat → Int) (y : Nat) : Pl.Rising (own f n b y).length (nf (own f n b y)) n := by
  have hi := rem_inv f n b y
  have hp := picks_rise (b := (b y).toNat) (rem_right h b y)
  generalize rem_e : rem f n b y = L at *
  unfold own
  rw [rem_e]
  intro j hj
  have e : (tkn L (pk f L (b y))).length = (pk f L (b y)).length := by unfold tkn; simp
  rw [e] at hj
  have q := hp j hj
  have ql : (nf (pk f L (b y)) j).toNat < L.length := by have := q.1; unfold pk; omega
  rw [nf_tkn hj]
  refine ⟨⟨by omega, by have := hi.2.1 _ (getD_mem ql); omega⟩, fun h0 => ?_⟩
  rw [nf_tkn (by omega)]
  have q2 := hp (j - 1) (by unfold pk at hj; omega)
  have q3 := q.2 h0
  have hs := hi.1
  rw [List.pairwise_iff_getElem] at hs
  have ql2 : (nf (pk f L (b y)) (j - 1)).toNat < L.length := by have := q2.1; unfold pk; omega
  have := hs _ _ ql2 ql (by unfold pk; have := q2.1.1; omega)
  simp only [List.getD_eq_getElem?_getD, List.getElem?_eq_getElem ql, List.getElem?_eq_getElem ql2, Option.getD_some]
  omega
theorem own_cost {f : Nat → Int} {n : Nat} (h : Right n f) (b : Nat → Int) (y : Nat) : sm f 0 (nf (own f n b y)) (own f n b y).length ≤ ((b y).toNat : Int) := by
  have hc := picks_cost (b := (b y).toNat) (rem_right h b y)
  refine Int.le_trans (Int.le_of_eq ?_) hc
  unfold own
  have e : (tkn (rem f n b y) (pk f (rem f n b y) (b y))).length = (pk f (rem f n b y) (b y)).length := by unfold tkn; simp
  rw [e]
  show sm f 0 (nf (tkn (rem f n b y) (pk f (rem f n b y) (b y)))) _ = sm (sub f (rem f n b y)) 0 (nf (pk f (rem f n b y) (b y))) (pk f (rem f n b y) (b y)).length
  generalize pk f (rem f n b y) (b y) = P
  generalize rem f n b y = L
  have : ∀ m, m ≤ P.length → sm f 0 (nf (tkn L P)) m = sm (sub f L) 0 (nf P) m := by
    intro m
    induction m with
    | zero => intro _; rfl
    | succ m ih =>
      intro hm
      simp only [sm]
      rw [ih (by omega), nf_tkn (by omega)]
      simp only [Int.toNat_natCast, Nat.add_zero]
      rw [sub_at]
  exact this _ (Nat.le_refl _)
/-- Numbers that are the same where it matters. -/
theorem tk_congr {f g : Nat → Int} {n : Nat} (h : ∀ j, j < n * 2 → f j = g j) : ∀ k, k ≤ n → tk f n k = tk g n k := by
  intro k
  induction k with
  | zero => intro _; rfl
  | succ k ih =>
    intro hk
    funext b
    simp only [tk, step]
    have hc : c f (n - 1 - k) = c g (n - 1 - k) := by unfold c; rw [h _ (by omega)]
    rw [ih (by omega), hc, h ((n - 1 - k) * 2 + 1) (by omega)]
theorem picks_congr {f g : Nat → Int} {n : Nat} (h : ∀ j, j < n * 2 → f j = g j) (b : Nat) : picks f n b = picks g n b := by
  have hT : ∀ i, T f n i = T g n i := fun i => tk_congr h _ (by omega)
  have : ∀ i, i ≤ n → pl f n b i = pl g n b i := by
    intro i
    induction i with
    | zero => intro _; rfl
    | succ i ih =>
      intro hi
      have hc : c f i = c g i := by unfold c; rw [h _ (by omega)]
      have ht : tak f n i = tak g n i := by
        funext x
        unfold tak
        rw [hc, hT, h (i * 2 + 1) (by omega)]
      simp only [pl]
      rw [ih (by omega), ht, hc]
  unfold picks
  rw [this n (Nat.le_refl _)]
theorem own_zero (f : Nat → Int) (n : Nat) (b : Nat → Int) : own f n b 0 = picks f n (b 0).toNat := by
  unfold own
  have e : pk f (rem f n b 0) (b 0) = picks f n (b 0).toNat := by
    unfold pk
    rw [show rem f n b 0 = List.range n from rfl, List.length_range]
    refine picks_congr (fun j hj => ?_) _
    unfold sub
    rw [List.getD_eq_getElem?_getD, List.getElem?_range (by omega)]
    simp only [Option.getD_some]
    congr 1
    omega
  rw [e]
  show tkn (List.range n) _ = _
  unfold tkn
  have h2 : ∀ x, x ∈ picks f n (b 0).toNat → x < n := by
    intro x hx
    have key : ∀ i, ∀ x, x ∈ (pl f n (b 0).toNat i).1 → x < i := by
      intro i
      induction i with
      | zero => intro x hx; simp [pl] at hx
      | succ i ih =>
        intro x hx
        simp only [pl] at hx
        split at hx
        · rw [List.mem_append] at hx
          rcases hx with q | q
          · have := ih x q; omega
          · have := List.mem_singleton.1 q; omega
        · have := ih x hx; omega
    exact key n x hx
  conv => rhs; rw [← List.map_id (picks f n (b 0).toNat)]
  apply List.map_congr_left
  intro x hx
  rw [List.getD_eq_getElem?_getD, List.getElem?_range (h2 x hx)]
  rfl
end Rn
end Go.Proofs.YtbkpedcabbppbaaDoor
