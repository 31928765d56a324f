/-
  The reckonings of the chapter of loops, as plain functions of words, and what they give.
-/
import Derived.Test.YtlipgnjknfmikaaLpMath
namespace Go.Proofs.Ytlipgnjknfmikaa.Fl
open Ieee

def mulW (x y : Nat) : Nat := (floatBits .mul .f64 x y).getD 0
def addW (x y : Nat) : Nat := (floatBits .add .f64 x y).getD 0
def subW (x y : Nat) : Nat := (floatBits .sub .f64 x y).getD 0
def divW (x y : Nat) : Nat := (floatBits .quo .f64 x y).getD 0

theorem mulW_bd {a b : Int} {x y : Nat} (hx : Bd a x) (hy : Bd b y) (h1 : -1000 ≤ a + b + 1) (h2 : a + b + 1 ≤ 1000) : floatBits .mul .f64 x y = some (mulW x y) ∧ Bd (a + b + 2) (mulW x y) := by
  obtain ⟨r, e, h⟩ := mul_bd hx hy h1 h2
  have : mulW x y = r := by unfold mulW; rw [e]; rfl
  rw [this]; exact ⟨e, h⟩
theorem addW_bd {k : Int} {x y : Nat} (hx : Bd k x) (hy : Bd k y) (h1 : -1000 ≤ k + 1) (h2 : k + 1 ≤ 1000) : floatBits .add .f64 x y = some (addW x y) ∧ Bd (k + 2) (addW x y) := by
  obtain ⟨r, e, h⟩ := add_bd hx hy h1 h2
  have : addW x y = r := by unfold addW; rw [e]; rfl
  rw [this]; exact ⟨e, h⟩
theorem subW_bd {k : Int} {x y : Nat} (hx : Bd k x) (hy : Bd k y) (h1 : -1000 ≤ k + 1) (h2 : k + 1 ≤ 1000) : floatBits .sub .f64 x y = some (subW x y) ∧ Bd (k + 2) (subW x y) := by
  obtain ⟨r, e, h⟩ := sub_bd hx hy h1 h2
  have : subW x y = r := by unfold subW; rw [e]; rfl
  rw [this]; exact ⟨e, h⟩

/-- A product's parts. -/
def cRe (a b c d : Nat) : Nat := subW (mulW a c) (mulW b d)
def cIm (a b c d : Nat) : Nat := addW (mulW a d) (mulW b c)

/-- What a product of two Cnums is reckoned by. -/
structure CMul (k : Int) (a b c d : Nat) : Prop where
  ac : floatBits .mul .f64 a c = some (mulW a c)
  bd : floatBits .mul .f64 b d = some (mulW b d)
  ad : floatBits .mul .f64 a d = some (mulW a d)
  bc : floatBits .mul .f64 b c = some (mulW b c)
  re : floatBits .sub .f64 (mulW a c) (mulW b d) = some (cRe a b c d)
  im : floatBits .add .f64 (mulW a d) (mulW b c) = some (cIm a b c d)
  bre : Bd k (cRe a b c d)
  bim : Bd k (cIm a b c d)

theorem cmul_bd {p q : Int} {a b c d : Nat} (ha : Bd p a) (hb : Bd p b) (hc : Bd q c) (hd : Bd q d) (h1 : -900 ≤ p + q) (h2 : p + q ≤ 900) : CMul (p + q + 4) a b c d := by
  have m1 := mulW_bd ha hc (by omega) (by omega)
  have m2 := mulW_bd hb hd (by omega) (by omega)
  have m3 := mulW_bd ha hd (by omega) (by omega)
  have m4 := mulW_bd hb hc (by omega) (by omega)
  have s1 := subW_bd m1.2 m2.2 (by omega) (by omega)
  have s2 := addW_bd m3.2 m4.2 (by omega) (by omega)
  exact ⟨m1.1, m2.1, m3.1, m4.1, s1.1, s2.1, s1.2.mono (by omega), s2.2.mono (by omega)⟩

theorem CMul.bits {k : Int} {a b c d : Nat} (h : CMul k a b c d) : cMulBits a b c d = some (cRe a b c d, cIm a b c d) := by
  unfold cMulBits
  rw [h.ac, h.bd, h.ad, h.bc]
  simp only [Option.bind_some]
  rw [h.re, h.im]
  rfl

/-- A size. -/
def szW (a b : Nat) : Nat := addW (mulW a a) (mulW b b)

theorem add_of_read {x y x' y' : Nat} (hx : double.read x = double.read x') (hy : double.read y = double.read y') : floatBits .add .f64 x y = floatBits .add .f64 x' y' := by
  show double.add x y = double.add x' y'
  unfold Format.add
  rw [hx, hy]

theorem signed_opp (s : Bool) (m u : Nat) : signed s m u + signed (!s) m u = 0 := by
  unfold signed
  cases s
  · rw [if_neg (by decide), if_pos (by decide)]; omega
  · rw [if_pos (by decide), if_neg (by decide)]; omega

theorem add_opp {x y : Nat} {d : Datum} (hx : double.read x = d.opposite) (hy : double.read y = d) (hd : ∃ s m e, d = .number s m e) : floatBits .add .f64 x y = some 0 := by
  obtain ⟨s, m, e, rfl⟩ := hd
  have hx' : double.read x = .number (!s) m e := hx
  rw [add_comm, add_read hy hx']
  have h0 : signed s m (e - min e e).toNat + signed (!s) m (e - min e e).toNat = 0 := signed_opp _ _ _
  rw [h0]
  have : (if (0 : Int) = 0 then s && !s else decide ((0 : Int) < 0)) = false := by cases s <;> rfl
  rw [this]
  show some (double.nearest false 0 _) = some 0
  unfold Format.nearest
  rw [if_pos rfl]
  rfl

theorem Bd.num {k : Int} {x : Nat} (h : Bd k x) : ∃ s m e, double.read x = .number s m e := by
  obtain ⟨s, m, e, h, _⟩ := h
  exact ⟨s, m, e, h⟩

/-- A Cnum times its conjugate. -/
theorem size_bits {a b : Nat} (ha : Bd 29 a) (hb : Bd 29 b) : cMulBits a b a (ng b) = some (szW a b, 0) ∧ floatBits .mul .f64 a a = some (mulW a a) ∧ floatBits .mul .f64 b b = some (mulW b b) ∧ floatBits .add .f64 (mulW a a) (mulW b b) = some (szW a b) ∧ Bd 62 (szW a b) := by
  have m1 := mulW_bd ha ha (by omega) (by omega)
  have m2 := mulW_bd hb hb (by omega) (by omega)
  have m3 := mulW_bd ha hb (by omega) (by omega)
  have s1 := addW_bd m1.2 m2.2 (by omega) (by omega)
  obtain ⟨q, hq, bq, rq⟩ := mul_ng hb hb (by omega) (by omega) m2.1
  obtain ⟨q2, hq2, bq2, rq2⟩ := mul_ng ha hb (by omega) (by omega) m3.1
  have hsub : floatBits .sub .f64 (mulW a a) q = some (szW a b) := by
    rw [sub_ng, add_of_read rfl (y' := mulW b b) (by rw [read_ng, rq, opp_opp])]
    exact s1.1
  have hadd : floatBits .add .f64 q2 (mulW a b) = some 0 := add_opp rq2 rfl m3.2.num
  refine ⟨?_, m1.1, m2.1, s1.1, s1.2.mono (by omega)⟩
  unfold cMulBits
  rw [m1.1, hq, hq2, mul_comm b a, m3.1]
  simp only [Option.bind_some]
  rw [hsub, hadd]
  rfl

/-- A square's sign. -/
theorem sq_read {a : Nat} (ha : Bd 29 a) : ∃ m e, double.read (mulW a a) = .number false m e := by
  obtain ⟨s, m, e, hr, hb⟩ := ha
  have hm : double.mul a a = some (double.write (.number (s ^^ s) (m * m) (e + e))) := by
    unfold Format.mul
    rw [hr]
    rfl
  have hw : mulW a a = double.write (.number (s ^^ s) (m * m) (e + e)) := by
    unfold mulW
    show (double.mul a a).getD 0 = _
    rw [hm]; rfl
  obtain ⟨m', e', h, _⟩ := (bd_write (s ^^ s) (m * m) (e + e) (29 + 29 + 1) (prod_le m m e e 29 29 hb hb) (by omega) (by omega)).2
  rw [hw, h]
  exact ⟨m', e', by simp⟩

theorem sz_read {a b : Nat} (ha : Bd 29 a) (hb : Bd 29 b) : ∃ m e, double.read (szW a b) = .number false m e := by
  obtain ⟨m, i, h1⟩ := sq_read ha
  obtain ⟨n, j, h2⟩ := sq_read hb
  have m1 := (mulW_bd ha ha (by omega) (by omega)).2
  have m2 := (mulW_bd hb hb (by omega) (by omega)).2
  have c1 : m = 0 ∨ i + m.log2 ≤ 60 := by
    obtain ⟨s, m', e', h, hh⟩ := m1
    rw [h1] at h; injection h with _ h3 h4; subst h3 h4; omega
  have c2 : n = 0 ∨ j + n.log2 ≤ 60 := by
    obtain ⟨s, m', e', h, hh⟩ := m2
    rw [h2] at h; injection h with _ h3 h4; subst h3 h4; omega
  have hs := sum_le false false m n i j 60 c1 c2
  have hneg : ¬ (signed false m (i - min i j).toNat + signed false n (j - min i j).toNat < 0) := by
    unfold signed; rw [if_neg (by decide), if_neg (by decide)]
    exact Int.not_lt.2 (Int.add_nonneg (Int.natCast_nonneg _) (Int.natCast_nonneg _))
  have hsg : (if signed false m (i - min i j).toNat + signed false n (j - min i j).toNat = 0 then false && false else decide (signed false m (i - min i j).toNat + signed false n (j - min i j).toNat < 0)) = false := by
    split
    · rfl
    · exact decide_eq_false hneg
  have hw : szW a b = double.write (.number false (signed false m (i - min i j).toNat + signed false n (j - min i j).toNat).natAbs (min i j)) := by
    unfold szW addW
    rw [add_read h1 h2, hsg]
    rfl
  obtain ⟨m', e', h, _⟩ := (bd_write false _ (min i j) (60 + 1) hs (by omega) (by omega)).2
  rw [hw, h]
  exact ⟨m', e', rfl⟩

theorem zero_num : double.read 0 = .number false 0 (-1074) := zero_read

/-- A size stands above nought, or is nought. -/
theorem sz_order {a b : Nat} (ha : Bd 29 a) (hb : Bd 29 b) : (FloatKind.f64.format.order (szW a b) 0 = some .gt ∧ ∃ s m e, double.read (szW a b) = .number s m e ∧ m ≠ 0) ∨ FloatKind.f64.format.order (szW a b) 0 = some .eq := by
  obtain ⟨m, e, h⟩ := sz_read ha hb
  have ho : FloatKind.f64.format.order (szW a b) 0 = some (compare (signed false m (e - min e (-1074)).toNat) (signed false 0 ((-1074 : Int) - min e (-1074)).toNat)) := by
    show double.order _ _ = _
    unfold Format.order
    rw [h, zero_read]
    rfl
  have z : signed false 0 ((-1074 : Int) - min e (-1074)).toNat = 0 := by unfold signed; simp
  rw [z] at ho
  by_cases hm : m = 0
  · right
    rw [ho, hm]
    have : signed false 0 (e - min e (-1074)).toNat = 0 := by unfold signed; simp
    rw [this]; rfl
  · left
    refine ⟨?_, false, m, e, h, hm⟩
    rw [ho]
    have : 0 < signed false m (e - min e (-1074)).toNat := by
      unfold signed
      rw [if_neg (by decide), Nat.shiftLeft_eq]
      have : 0 < m * 2 ^ (e - min e (-1074)).toNat := Nat.mul_pos (by omega) (Nat.two_pow_pos _)
      omega
    have h3 : compare (signed false m (e - min e (-1074)).toNat) 0 = .gt := by
      rw [Int.compare_eq_gt]; exact this
    rw [h3]

theorem zz_order : FloatKind.f64.format.order 0 0 = some .eq := by decide +kernel

theorem ord_self {x : Nat} {s : Bool} {m : Nat} {e : Int} (h : double.read x = .number s m e) : FloatKind.f64.format.order x x = some .eq := by
  show double.order x x = _
  unfold Format.order
  rw [h]
  show some (compare _ _) = _
  congr 1
  exact Int.compare_eq_eq.2 rfl

/-- A Cnum times another one's conjugate. -/
def dRe (a b c d : Nat) : Nat := addW (mulW a c) (mulW b d)
def dIm (a b c d : Nat) : Nat := subW (mulW b c) (mulW a d)
structure CDiv (a b c d : Nat) : Prop where
  ac : floatBits .mul .f64 a c = some (mulW a c)
  bd : floatBits .mul .f64 b d = some (mulW b d)
  ad : floatBits .mul .f64 a d = some (mulW a d)
  bc : floatBits .mul .f64 b c = some (mulW b c)
  re : floatBits .add .f64 (mulW a c) (mulW b d) = some (dRe a b c d)
  im : floatBits .sub .f64 (mulW b c) (mulW a d) = some (dIm a b c d)
  bre : Bd 62 (dRe a b c d)
  bim : Bd 62 (dIm a b c d)
  bits : cMulBits a b c (ng d) = some (dRe a b c d, dIm a b c d)

theorem cdiv_bd {a b c d : Nat} (ha : Bd 29 a) (hb : Bd 29 b) (hc : Bd 29 c) (hd : Bd 29 d) : CDiv a b c d := by
  have m1 := mulW_bd ha hc (by omega) (by omega)
  have m2 := mulW_bd hb hd (by omega) (by omega)
  have m3 := mulW_bd ha hd (by omega) (by omega)
  have m4 := mulW_bd hb hc (by omega) (by omega)
  have s1 := addW_bd m1.2 m2.2 (by omega) (by omega)
  have s2 := subW_bd m4.2 m3.2 (by omega) (by omega)
  obtain ⟨q, hq, bq, rq⟩ := mul_ng hb hd (by omega) (by omega) m2.1
  obtain ⟨q2, hq2, bq2, rq2⟩ := mul_ng ha hd (by omega) (by omega) m3.1
  have hsub : floatBits .sub .f64 (mulW a c) q = some (dRe a b c d) := by
    rw [sub_ng, add_of_read rfl (y' := mulW b d) (by rw [read_ng, rq, opp_opp])]
    exact s1.1
  have hadd : floatBits .add .f64 q2 (mulW b c) = some (dIm a b c d) := by
    rw [add_comm, add_of_read rfl (y' := ng (mulW a d)) (by rw [read_ng, rq2]), ← sub_ng]
    exact s2.1
  refine ⟨m1.1, m2.1, m3.1, m4.1, s1.1, s2.1, s1.2.mono (by omega), s2.2.mono (by omega), ?_⟩
  unfold cMulBits
  rw [m1.1, hq, hq2, m4.1]
  simp only [Option.bind_some]
  rw [hsub, hadd]
  rfl

theorem divW_some {k : Int} {x y : Nat} (hx : Bd k x) (hy : ∃ s m e, double.read y = .number s m e ∧ m ≠ 0) : floatBits .quo .f64 x y = some (divW x y) := by
  obtain ⟨r, e⟩ := div_good x y (by obtain ⟨s, m, e, h⟩ := hx.num; rw [h]; intro a b; simp) hy
  have : divW x y = r := by unfold divW; rw [e]; rfl
  rw [this]; exact e

/-- What the three of them answer. -/
def rightB (a b : Nat) : Bool := measB a && measB b
theorem rightB_iff {a b : Nat} (h : rightB a b = true) : Bd 29 a ∧ Bd 29 b := by
  unfold rightB at h
  have := Bool.and_eq_true_iff.1 h
  exact ⟨meas_bd this.1, meas_bd this.2⟩
def mulRe (a b c d : Nat) : Nat := if rightB a b && rightB c d then cRe a b c d else 0
def mulIm (a b c d : Nat) : Nat := if rightB a b && rightB c d then cIm a b c d else 0
def sizeA (a b : Nat) : Nat := if rightB a b then szW a b else 0
def posB (a b : Nat) : Bool := FloatKind.f64.format.order (szW a b) 0 == some .gt
def divRe (a b c d : Nat) : Nat := if (rightB a b && rightB c d) && posB c d then divW (dRe a b c d) (szW c d) else 0
def divIm (a b c d : Nat) : Nat := if (rightB a b && rightB c d) && posB c d then divW (dIm a b c d) (szW c d) else 0

end Go.Proofs.Ytlipgnjknfmikaa.Fl
