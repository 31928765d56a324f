/-
  Histories: points, what is packed, looked up, how far off, their bytes (no program in this text).
-/
import Derived.Test.YtmejmpdljckfgaaDoorLnMath
import Derived.Lib.SliceRun
namespace Go.Proofs.YtmejmpdljckfgaaDoor
namespace Hs
/-- Where a point's place may begin and end. -/
def lo (F : Nat → Int) (i : Nat) : Int := if i = 0 then 0 else F ((i - 1) * 2) + 1
def hi (i : Nat) : Int := if i = 0 then 0 else 299
theorem lo_zero (F : Nat → Int) : lo F 0 = 0 := rfl
theorem lo_succ (F : Nat → Int) (i : Nat) : lo F (i + 1) = F (i * 2) + 1 := by unfold lo; rw [if_neg (by omega), show i + 1 - 1 = i by omega]
theorem hi_zero : hi 0 = 0 := rfl
theorem hi_succ (i : Nat) : hi (i + 1) = 299 := by unfold hi; rw [if_neg (by omega)]
def PtAt (F : Nat → Int) (i : Nat) : Prop := lo F i ≤ F (i * 2) ∧ F (i * 2) ≤ hi i ∧ -1000000 ≤ F (i * 2 + 1) ∧ F (i * 2 + 1) ≤ 1000000
def Right (F : Nat → Int) (n : Nat) : Prop := n ≤ 300 ∧ ∀ i, i < n → PtAt F i
theorem PtAt.hi299 {F : Nat → Int} {i : Nat} (h : PtAt F i) : F (i * 2) ≤ 299 := by
  have := h.2.1
  unfold hi at this
  split at this <;> omega
theorem Right.ge {F : Nat → Int} {n : Nat} (h : Right F n) : ∀ i, i < n → (i : Int) ≤ F (i * 2) := by
  intro i
  induction i with
  | zero => intro hi; have := (h.2 0 hi).1; rw [lo_zero] at this; simpa using this
  | succ i ih => intro hi; have := (h.2 (i + 1) hi).1; rw [lo_succ] at this; have := ih (by omega); omega
theorem Right.in_ {F : Nat → Int} {n i : Nat} (h : Right F n) (hi : i < n) : 0 ≤ F (i * 2) ∧ F (i * 2) ≤ 299 ∧ -1000000 ≤ F (i * 2 + 1) ∧ F (i * 2 + 1) ≤ 1000000 :=
  ⟨by have := h.ge i hi; omega, (h.2 i hi).hi299, (h.2 i hi).2.2⟩
theorem Right.congr {F G : Nat → Int} {n : Nat} (h : Right F n) (e : ∀ j, j < n * 2 → F j = G j) : Right G n := by
  refine ⟨h.1, fun i hi => ?_⟩
  have h1 := h.2 i hi
  unfold PtAt at h1 ⊢
  rw [← e (i * 2) (by omega), ← e (i * 2 + 1) (by omega)]
  have : lo G i = lo F i := by
    unfold lo
    by_cases h0 : i = 0
    · rw [if_pos h0, if_pos h0]
    · rw [if_neg h0, if_neg h0, e _ (by omega)]
  rw [this]
  exact h1
theorem Right.rise {F : Nat → Int} {n : Nat} (h : Right F n) {i j : Nat} (hij : i < j) (hj : j < n) : F (i * 2) < F (j * 2) := by
  induction j with
  | zero => omega
  | succ j ih =>
    have h1 := (h.2 (j + 1) hj).1
    rw [lo_succ] at h1
    by_cases e : i = j
    · subst e; omega
    · have := ih (by omega) (by omega); omega
theorem Right.zero (F : Nat → Int) : Right F 0 := ⟨by omega, fun _ h => absurd h (Nat.not_lt_zero _)⟩
theorem Right.first {F : Nat → Int} {n : Nat} (h : Right F n) (hn : 0 < n) : F 0 = 0 := by
  have := h.2 0 hn
  have h1 := this.1; have h2 := this.2.1
  rw [lo_zero] at h1; rw [hi_zero] at h2
  simp at h1 h2
  omega
/-- The value at a place: that of the last point not behind it, nought where there is none. -/
def look (F : Nat → Int) (a : Int) : Nat → Int
  | 0 => 0
  | n + 1 => if F (n * 2) ≤ a then F (n * 2 + 1) else look F a n
theorem look_stop {F : Nat → Int} {n : Nat} (h : Right F n) {a : Int} {i : Nat} (ha : a < F (i * 2)) : ∀ k, i ≤ k → k ≤ n → look F a k = look F a i := by
  intro k
  induction k with
  | zero => intro h1 _; rw [show i = 0 by omega]
  | succ k ih =>
    intro h1 h2
    by_cases e : i = k + 1
    · rw [e]
    · have h3 : a < F (k * 2) := by
        by_cases e2 : i = k
        · subst e2; exact ha
        · have := h.rise (show i < k by omega) (show k < n by omega); omega
      show (if F (k * 2) ≤ a then _ else look F a k) = _
      rw [if_neg (by omega)]
      exact ih (by omega) (by omega)
theorem look_in {F : Nat → Int} {n : Nat} (h : ∀ i, i < n → -1000000 ≤ F (i * 2 + 1) ∧ F (i * 2 + 1) ≤ 1000000) (a : Int) : ∀ k, k ≤ n → -1000000 ≤ look F a k ∧ look F a k ≤ 1000000 := by
  intro k
  induction k with
  | zero => intro _; unfold look; omega
  | succ k ih =>
    intro hk
    show -1000000 ≤ (if F (k * 2) ≤ a then F (k * 2 + 1) else look F a k) ∧ (if F (k * 2) ≤ a then F (k * 2 + 1) else look F a k) ≤ 1000000
    by_cases e : F (k * 2) ≤ a
    · rw [if_pos e]; exact h k (by omega)
    · rw [if_neg e]; exact ih (by omega)
theorem Right.vals {F : Nat → Int} {n : Nat} (h : Right F n) : ∀ i, i < n → -1000000 ≤ F (i * 2 + 1) ∧ F (i * 2 + 1) ≤ 1000000 := fun i hi => (h.2 i hi).2.2
theorem look_congr {F G : Nat → Int} {n : Nat} (e : ∀ j, j < n * 2 → F j = G j) (a : Int) : ∀ k, k ≤ n → look F a k = look G a k := by
  intro k
  induction k with
  | zero => intro _; rfl
  | succ k ih =>
    intro hk
    show (if F (k * 2) ≤ a then F (k * 2 + 1) else look F a k) = (if G (k * 2) ≤ a then G (k * 2 + 1) else look G a k)
    rw [e (k * 2) (by omega), e (k * 2 + 1) (by omega), ih (by omega)]
open Classical in
/-- What HistoryAt tells. -/
noncomputable def ask (F : Nat → Int) (n : Nat) (a : Int) : Int := if Right F n then look F a n else 0
theorem ask_yes {F : Nat → Int} {n : Nat} (h : Right F n) (a : Int) : ask F n a = look F a n := if_pos h
theorem ask_no {F : Nat → Int} {n : Nat} (h : ¬ Right F n) (a : Int) : ask F n a = 0 := if_neg h
/-- Values that may be kept, a band that may be. -/
def Vals (V : Nat → Int) (n : Nat) : Prop := n ≤ 300 ∧ ∀ i, i < n → -1000000 ≤ V i ∧ V i ≤ 1000000
def Band (b : Int) : Prop := 0 ≤ b ∧ b ≤ 1000000
/-- The last value of points. -/
def last (l : List (Int × Int)) : Int := Ln.fl l ((l.length - 1) * 2 + 1)
theorem last_snoc (l : List (Int × Int)) (x : Int × Int) : last (l ++ [x]) = x.2 := by
  unfold last
  rw [show ((l ++ [x]).length - 1) * 2 + 1 = l.length * 2 + 1 by simp, Ln.fl_app2]
  rfl
def Far (V : Nat → Int) (b : Int) (l : List (Int × Int)) (i : Nat) : Prop := i = 0 ∨ V i - last l < -b ∨ b < V i - last l
open Classical in
noncomputable def pack (V : Nat → Int) (b : Int) : Nat → List (Int × Int)
  | 0 => []
  | i + 1 => if Far V b (pack V b i) i then pack V b i ++ [((i : Int), V i)] else pack V b i
theorem pack_yes {V : Nat → Int} {b : Int} {i : Nat} (h : Far V b (pack V b i) i) : pack V b (i + 1) = pack V b i ++ [((i : Int), V i)] := if_pos h
theorem pack_no {V : Nat → Int} {b : Int} {i : Nat} (h : ¬ Far V b (pack V b i) i) : pack V b (i + 1) = pack V b i := if_neg h
theorem pack_len (V : Nat → Int) (b : Int) (i : Nat) : (pack V b i).length ≤ i := by
  induction i with
  | zero => simp [pack]
  | succ i ih =>
    by_cases h : Far V b (pack V b i) i
    · rw [pack_yes h]; simp; omega
    · rw [pack_no h]; omega
theorem pack_pos (V : Nat → Int) (b : Int) (i : Nat) (hi : 0 < i) : 0 < (pack V b i).length := by
  induction i with
  | zero => omega
  | succ i ih =>
    by_cases h : Far V b (pack V b i) i
    · rw [pack_yes h]; simp
    · rw [pack_no h]; exact ih (by unfold Far at h; omega)
theorem pack_last {V : Nat → Int} {b : Int} {n : Nat} (h : ∀ i, i < n → -1000000 ≤ V i ∧ V i ≤ 1000000) : ∀ i, i ≤ n → 0 < i → -1000000 ≤ last (pack V b i) ∧ last (pack V b i) ≤ 1000000 := by
  intro i
  induction i with
  | zero => intro _ h; omega
  | succ i ih =>
    intro hi _
    by_cases hf : Far V b (pack V b i) i
    · rw [pack_yes hf, last_snoc]; exact h i (by omega)
    · rw [pack_no hf]; exact ih (by omega) (by unfold Far at hf; omega)
open Classical in
/-- What HistoryPack tells. -/
noncomputable def keep (V : Nat → Int) (n : Nat) (b : Int) : List (Int × Int) := if Vals V n ∧ Band b then pack V b n else []
theorem keep_yes {V : Nat → Int} {n : Nat} {b : Int} (h : Vals V n) (hb : Band b) : keep V n b = pack V b n := if_pos ⟨h, hb⟩
theorem keep_no {V : Nat → Int} {n : Nat} {b : Int} (h : ¬ (Vals V n ∧ Band b)) : keep V n b = [] := if_neg h
theorem keep_len (V : Nat → Int) (n : Nat) (b : Int) : (keep V n b).length ≤ 300 := by
  by_cases h : Vals V n ∧ Band b
  · rw [keep_yes h.1 h.2]; have := pack_len V b n; have := h.1.1; omega
  · rw [keep_no h]; simp
/-- How far off the values are, at most. -/
def mag (x : Int) : Int := if x < 0 then -x else x
def worst (V F : Nat → Int) (n : Nat) : Nat → Int
  | 0 => 0
  | i + 1 => max (worst V F n i) (mag (V i - look F i n))
open Classical in
noncomputable def off (V : Nat → Int) (m : Nat) (F : Nat → Int) (n : Nat) : Int := if 400 < m ∨ 400 < n then 0 else if Vals V m ∧ Right F n then worst V F n m else -1
/-- A number's bytes. -/
def num (n : Nat) : List UInt8 := if n < 128 then [UInt8.ofNat n] else UInt8.ofNat (n % 128 + 128) :: num (n / 128)
termination_by n
theorem num_small {n : Nat} (h : n < 128) : num n = [UInt8.ofNat n] := by rw [num, if_pos h]
theorem num_big {n : Nat} (h : ¬ n < 128) : num n = UInt8.ofNat (n % 128 + 128) :: num (n / 128) := by rw [num, if_neg h]
def fold (d : Int) : Int := if d < 0 then -2 * d - 1 else 2 * d
def pa (F : Nat → Int) (i : Nat) : Int := if i = 0 then 0 else F ((i - 1) * 2)
def pv (F : Nat → Int) (i : Nat) : Int := if i = 0 then 0 else F ((i - 1) * 2 + 1)
theorem pa_succ (F : Nat → Int) (i : Nat) : pa F (i + 1) = F (i * 2) := by unfold pa; rw [if_neg (by omega), show i + 1 - 1 = i by omega]
theorem pv_succ (F : Nat → Int) (i : Nat) : pv F (i + 1) = F (i * 2 + 1) := by unfold pv; rw [if_neg (by omega), show i + 1 - 1 = i by omega]
/-- The two numbers of a point. -/
def da (F : Nat → Int) (i : Nat) : Nat := (F (i * 2) - pa F i).toNat
def dv (F : Nat → Int) (i : Nat) : Nat := (fold (F (i * 2 + 1) - pv F i)).toNat
def ptB (F : Nat → Int) (i : Nat) : List UInt8 := num (da F i) ++ num (dv F i)
def cat (F : Nat → Int) : Nat → List UInt8
  | 0 => []
  | n + 1 => cat F n ++ ptB F n
theorem Right.da {F : Nat → Int} {n i : Nat} (h : Right F n) (hi : i < n) : 0 ≤ F (i * 2) - pa F i ∧ F (i * 2) - pa F i ≤ 299 := by
  have h1 := h.in_ hi
  match i, hi with
  | 0, _ => unfold pa; rw [if_pos rfl]; omega
  | i + 1, hi =>
    rw [pa_succ]
    have := (h.2 (i + 1) hi).1
    rw [lo_succ] at this
    have := h.in_ (show i < n by omega)
    omega
theorem Right.dv {F : Nat → Int} {n i : Nat} (h : Right F n) (hi : i < n) : -2000000 ≤ F (i * 2 + 1) - pv F i ∧ F (i * 2 + 1) - pv F i ≤ 2000000 := by
  have h1 := h.in_ hi
  match i, hi with
  | 0, _ => unfold pv; rw [if_pos rfl]; omega
  | i + 1, hi =>
    rw [pv_succ]
    have := h.in_ (show i < n by omega)
    omega
theorem fold_in {d : Int} (h : -2000000 ≤ d ∧ d ≤ 2000000) : 0 ≤ fold d ∧ fold d ≤ 4000000 := by unfold fold; split <;> omega
open Classical in
/-- What PointsText tells. -/
noncomputable def text (F : Nat → Int) (n : Nat) : List UInt8 := if Right F n then cat F n else []
theorem text_yes {F : Nat → Int} {n : Nat} (h : Right F n) : text F n = cat F n := if_pos h
theorem text_no {F : Nat → Int} {n : Nat} (h : ¬ Right F n) : text F n = [] := if_neg h
theorem num_len {n : Nat} (m : Nat) (h : n < 128 ^ m) (hm : 0 < m) : (num n).length ≤ m := by
  induction m generalizing n with
  | zero => omega
  | succ m ih =>
    by_cases h1 : n < 128
    · rw [num_small h1]; simp
    · rw [num_big h1]
      have : n / 128 < 128 ^ m := by rw [Nat.pow_succ] at h; omega
      have hm0 : 0 < m := by
        rcases Nat.eq_zero_or_pos m with e | e
        · subst e; simp at h; omega
        · exact e
      have := ih this hm0
      simp; omega
theorem cat_len {F : Nat → Int} {n : Nat} (h : Right F n) : ∀ i, i ≤ n → (cat F i).length ≤ 6 * i := by
  intro i
  induction i with
  | zero => intro _; simp [cat]
  | succ i ih =>
    intro hi
    have h1 := ih (by omega)
    have h2 := h.da (show i < n by omega)
    have h3 := fold_in (h.dv (show i < n by omega))
    have h4 : (num (Hs.da F i)).length ≤ 2 := num_len 2 (by unfold Hs.da; omega) (by omega)
    have h5 : (num (Hs.dv F i)).length ≤ 4 := num_len 4 (by unfold Hs.dv; omega) (by omega)
    show (cat F i ++ ptB F i).length ≤ _
    unfold ptB
    simp only [List.length_append]
    omega
theorem num_ne (n : Nat) : num n ≠ [] := by
  by_cases h : n < 128
  · rw [num_small h]; simp
  · rw [num_big h]; simp
/-- The numbers that bytes tell: whole ones alone. -/
def nums : Nat → Nat → List UInt8 → List Nat
  | _, _, [] => []
  | a, u, c :: t => if c.toNat < 128 then (a + c.toNat % 128 * u) :: nums 0 1 t else nums (a + c.toNat % 128 * u) (u * 128) t
theorem nums_num (k a u : Nat) (t : List UInt8) : nums a u (num k ++ t) = (a + k * u) :: nums 0 1 t := by
  induction k using Nat.strongRecOn generalizing a u with
  | _ k ih =>
    by_cases h : k < 128
    · rw [num_small h]
      show (if (UInt8.ofNat k).toNat < 128 then _ else _) = _
      have e : (UInt8.ofNat k).toNat = k := by simp; omega
      rw [e, if_pos h, Nat.mod_eq_of_lt h]
      rfl
    · rw [num_big h]
      show (if (UInt8.ofNat (k % 128 + 128)).toNat < 128 then _ else nums (a + (UInt8.ofNat (k % 128 + 128)).toNat % 128 * u) (u * 128) (num (k / 128) ++ t)) = _
      have e : (UInt8.ofNat (k % 128 + 128)).toNat = k % 128 + 128 := by simp; omega
      rw [e, if_neg (by omega), ih (k / 128) (by omega)]
      congr 1
      rw [show (k % 128 + 128) % 128 = k % 128 by omega]
      have h2 : k = k % 128 + 128 * (k / 128) := by omega
      have h3 : k * u = k % 128 * u + k / 128 * (u * 128) := by
        conv => lhs; rw [h2]
        rw [Nat.add_mul]
        congr 1
        rw [Nat.mul_comm 128 (k / 128), Nat.mul_assoc, Nat.mul_comm 128 u]
      omega
def numL (F : Nat → Int) : Nat → List Nat
  | 0 => []
  | n + 1 => numL F n ++ [da F n, dv F n]
theorem nums_cat (F : Nat → Int) (n : Nat) (t : List UInt8) : nums 0 1 (cat F n ++ t) = numL F n ++ nums 0 1 t := by
  induction n generalizing t with
  | zero => rfl
  | succ n ih =>
    show nums 0 1 (cat F n ++ ptB F n ++ t) = numL F n ++ [da F n, dv F n] ++ nums 0 1 t
    rw [List.append_assoc, ih]
    unfold ptB
    rw [List.append_assoc, nums_num, nums_num]
    simp
/-- Points out of numbers, in the language's own arithmetic. -/
def unf (y : Nat) : Int := if y % 2 = 1 then -((y / 2 : Nat) : Int) - 1 else ((y / 2 : Nat) : Int)
theorem unf_fold (d : Int) : unf (fold d).toNat = d := by
  unfold unf fold
  split <;> split <;> omega
def pts (a v : Int) : List Nat → List (Int × Int)
  | x :: y :: t => (IntKind.i64.wrap (a + IntKind.i64.wrap x), IntKind.i64.wrap (v + unf y)) :: pts (IntKind.i64.wrap (a + IntKind.i64.wrap x)) (IntKind.i64.wrap (v + unf y)) t
  | _ => []
theorem wrapid {x : Int} (h1 : -9223372036854775808 ≤ x) (h2 : x ≤ 9223372036854775807) : IntKind.i64.wrap x = x := by simp [IntKind.wrap, IntKind.bits, IntKind.signed]; omega
theorem nof_succ (n : Nat) (F : Nat → Int) : Ln.nof (n + 1) F = Ln.nof n F ++ [(F (n * 2), F (n * 2 + 1))] := by unfold Ln.nof; rw [List.range_succ, List.map_append]; rfl
theorem pts_numL {F : Nat → Int} {n : Nat} (h : Right F n) (t : List Nat) : ∀ i, i ≤ n → pts 0 0 (numL F i ++ t) = Ln.nof i F ++ pts (pa F i) (pv F i) t := by
  intro i
  induction i generalizing t with
  | zero => intro _; rfl
  | succ i ih =>
    intro hi
    have h1 := h.da (show i < n by omega)
    have h2 := h.dv (show i < n by omega)
    have h3 := h.in_ (show i < n by omega)
    have e1 : IntKind.i64.wrap ((da F i : Nat) : Int) = F (i * 2) - pa F i := by
      unfold da
      rw [show (((F (i * 2) - pa F i).toNat : Nat) : Int) = F (i * 2) - pa F i by omega]
      exact wrapid (by omega) (by omega)
    have e2 : unf (dv F i) = F (i * 2 + 1) - pv F i := unf_fold _
    show pts 0 0 (numL F i ++ [da F i, dv F i] ++ t) = _
    rw [List.append_assoc, ih _ (by omega), nof_succ, List.append_assoc]
    congr 1
    show (IntKind.i64.wrap (pa F i + IntKind.i64.wrap (da F i)), IntKind.i64.wrap (pv F i + unf (dv F i))) :: pts (IntKind.i64.wrap (pa F i + IntKind.i64.wrap (da F i))) (IntKind.i64.wrap (pv F i + unf (dv F i))) t = _
    rw [e1, e2, show pa F i + (F (i * 2) - pa F i) = F (i * 2) by omega, show pv F i + (F (i * 2 + 1) - pv F i) = F (i * 2 + 1) by omega, wrapid (by omega) (by omega), wrapid (by omega) (by omega), pa_succ, pv_succ]
    rfl
/-- What is written is read. -/
theorem back {F : Nat → Int} {n : Nat} (h : Right F n) : pts 0 0 (nums 0 1 (cat F n)) = Ln.nof n F := by
  have h1 := nums_cat F n []
  rw [List.append_nil] at h1
  rw [h1]
  have := pts_numL h (nums 0 1 []) n (Nat.le_refl _)
  rw [this]
  show Ln.nof n F ++ [] = _
  rw [List.append_nil]
theorem numL_lt {F : Nat → Int} {n : Nat} (h : Right F n) : ∀ i, i ≤ n → ∀ x ∈ numL F i, x ≤ 4000000 := by
  intro i
  induction i with
  | zero => intro _ x hx; simp [numL] at hx
  | succ i ih =>
    intro hi x hx
    have h1 := h.da (show i < n by omega)
    have h2 := fold_in (h.dv (show i < n by omega))
    rcases List.mem_append.1 hx with hx | hx
    · exact ih (by omega) x hx
    · simp at hx
      rcases hx with rfl | rfl
      · unfold da; omega
      · unfold dv; omega
theorem numL_len (F : Nat → Int) (n : Nat) : (numL F n).length = 2 * n := by
  induction n with
  | zero => rfl
  | succ n ih => show (numL F n ++ [da F n, dv F n]).length = _; simp [ih]; omega
/-- No number has more than six bytes. -/
def Fit : Nat → List UInt8 → Prop
  | _, [] => True
  | k, c :: t => k ≤ 5 ∧ (if c.toNat < 128 then Fit 0 t else Fit (k + 1) t)
theorem fit_num {x : Nat} (m k : Nat) (h : x < 128 ^ m) (hm : 0 < m) (hk : k + m ≤ 6) (t : List UInt8) (ht : Fit 0 t) : Fit k (num x ++ t) := by
  induction m generalizing x k with
  | zero => omega
  | succ m ih =>
    by_cases h1 : x < 128
    · rw [num_small h1]
      refine ⟨by omega, ?_⟩
      have e : (UInt8.ofNat x).toNat = x := by simp; omega
      rw [e, if_pos h1]
      exact ht
    · rw [num_big h1]
      refine ⟨by omega, ?_⟩
      have e : (UInt8.ofNat (x % 128 + 128)).toNat = x % 128 + 128 := by simp; omega
      rw [e, if_neg (by omega)]
      have h2 : x / 128 < 128 ^ m := by rw [Nat.pow_succ] at h; omega
      have hm0 : 0 < m := by
        rcases Nat.eq_zero_or_pos m with e | e
        · subst e; simp at h; omega
        · exact e
      exact ih (k + 1) h2 hm0 (by omega)
theorem fit_cat {F : Nat → Int} {n : Nat} (h : Right F n) : ∀ i, i ≤ n → ∀ t, Fit 0 t → Fit 0 (cat F i ++ t) := by
  intro i
  induction i with
  | zero => intro _ t ht; exact ht
  | succ i ih =>
    intro hi t ht
    have h2 := h.da (show i < n by omega)
    have h3 := fold_in (h.dv (show i < n by omega))
    show Fit 0 (cat F i ++ ptB F i ++ t)
    rw [List.append_assoc]
    refine ih (by omega) _ ?_
    unfold ptB
    rw [List.append_assoc]
    exact fit_num 2 0 (by unfold Hs.da; omega) (by omega) (by omega) _ (fit_num 4 0 (by unfold Hs.dv; omega) (by omega) (by omega) _ ht)
theorem Right.fit {F : Nat → Int} {n : Nat} (h : Right F n) : Fit 0 (cat F n) := by
  have := fit_cat h n (Nat.le_refl _) [] trivial
  rwa [List.append_nil] at this
/-- A list of points that is right. -/
def RightL (l : List (Int × Int)) : Prop := Right (Ln.fl l) l.length
noncomputable def textL (l : List (Int × Int)) : List UInt8 := text (Ln.fl l) l.length
theorem nof_fl_self (l : List (Int × Int)) : Ln.nof l.length (Ln.fl l) = l := by
  apply List.ext_getElem?
  intro i
  by_cases h : i < l.length
  · simp [Ln.nof, h, Ln.fl_even, Ln.fl_odd, List.getD_eq_getElem?_getD]
  · simp [Ln.nof, h]
theorem RightL.back {l : List (Int × Int)} (h : RightL l) : pts 0 0 (nums 0 1 (textL l)) = l := by
  unfold textL
  rw [text_yes h, Hs.back h, nof_fl_self]
/-- What PointsRead tells. -/
def Rd (t : List UInt8) (l : List (Int × Int)) (cd : Int) : Prop :=
  (20000 < t.length ∧ cd = 2 ∧ l = []) ∨ (t.length ≤ 20000 ∧ cd = 0 ∧ RightL l ∧ textL l = t) ∨ (t.length ≤ 20000 ∧ cd = 3 ∧ l = [] ∧ ∀ k, RightL k → textL k ≠ t)
theorem Rd.one {t : List UInt8} {l m : List (Int × Int)} {c d : Int} (h : Rd t l c) (k : Rd t m d) : l = m ∧ c = d := by
  rcases h with ⟨h0, rfl, rfl⟩ | ⟨h0, rfl, h1, h2⟩ | ⟨h0, rfl, rfl, h1⟩ <;> rcases k with ⟨k0, rfl, rfl⟩ | ⟨k0, rfl, k1, k2⟩ | ⟨k0, rfl, rfl, k1⟩
  · exact ⟨rfl, rfl⟩
  · omega
  · omega
  · omega
  · refine ⟨?_, rfl⟩
    rw [← h1.back, ← k1.back, h2, k2]
  · exact absurd h2 (k1 _ h1)
  · omega
  · exact absurd k2 (h1 _ k1)
  · exact ⟨rfl, rfl⟩
theorem Rd.len {t : List UInt8} {l : List (Int × Int)} {c : Int} (h : Rd t l c) : l.length ≤ 300 := by
  rcases h with ⟨_, _, rfl⟩ | ⟨_, _, h1, _⟩ | ⟨_, _, rfl, _⟩
  · simp
  · exact h1.1
  · simp
/-- A number's bytes by themselves. -/
def sv : List UInt8 → Nat
  | [] => 0
  | c :: t => c.toNat % 128 + 128 * sv t
theorem nums_seg (a u : Nat) (hs : List UInt8) (c : UInt8) (t : List UInt8) (hh : ∀ x ∈ hs, 128 ≤ x.toNat) (hc : c.toNat < 128) : nums a u (hs ++ c :: t) = (a + u * sv (hs ++ [c])) :: nums 0 1 t := by
  induction hs generalizing a u with
  | nil =>
    show (if c.toNat < 128 then (a + c.toNat % 128 * u) :: nums 0 1 t else _) = (a + u * (c.toNat % 128 + 128 * 0)) :: nums 0 1 t
    rw [if_pos hc, Nat.mul_zero, Nat.add_zero, Nat.mul_comm]
  | cons x hs ih =>
    have hx := hh x (by simp)
    show (if x.toNat < 128 then _ else nums (a + x.toNat % 128 * u) (u * 128) (hs ++ c :: t)) = (a + u * (x.toNat % 128 + 128 * sv (hs ++ [c]))) :: nums 0 1 t
    rw [if_neg (by omega), ih _ _ (fun y hy => hh y (by simp [hy]))]
    congr 1
    rw [Nat.mul_add, Nat.mul_comm u (x.toNat % 128), Nat.mul_assoc u 128, Nat.add_assoc]
theorem nums_high (a u : Nat) (hs : List UInt8) (hh : ∀ x ∈ hs, 128 ≤ x.toNat) : nums a u hs = [] := by
  induction hs generalizing a u with
  | nil => rfl
  | cons x hs ih =>
    show (if x.toNat < 128 then _ else nums (a + x.toNat % 128 * u) (u * 128) hs) = _
    have hx := hh x (by simp)
    rw [if_neg (by omega)]
    exact ih _ _ (fun y hy => hh y (by simp [hy]))
end Hs
end Go.Proofs.YtmejmpdljckfgaaDoor
