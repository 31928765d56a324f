/-
  Plain facts on words of IEEE 754 that may grow great: squares and their sums, quotients by them, how great these are at most. No program is named here.
-/
import Derived.Test.YtlipgnjknfmikaaLpFn
namespace Go.Proofs.Ytlipgnjknfmikaa.Fl
open Ieee

/-- What a word of a sign and a rung is read as. -/
theorem read_rung (s : Bool) (r : Nat) (h : r ≤ 9218868437227405312) : double.read (double.word s r) = if r < 4503599627370496 then .number s r (-1074) else if r < 9218868437227405312 then .number s (4503599627370496 + r % 4503599627370496) (-1074 + (r / 4503599627370496 - 1 : Nat)) else .infinity s := by
  have hm : double.word s r % double.signWeight = r := by
    unfold Format.word; rw [double_sw]; split <;> omega
  have hs : (double.word s r / double.signWeight % 2 == 1) = s := by
    unfold Format.word; rw [double_sw]
    cases s
    · rw [if_neg (by decide)]; have : r / 9223372036854775808 = 0 := by omega
      rw [this]; rfl
    · rw [if_pos rfl]; have : (9223372036854775808 + r) / 9223372036854775808 = 1 := by omega
      rw [this]; rfl
  unfold Format.read
  simp only [hm, hs]
  rw [double_binade, double_inf, double_least]
  split
  · rfl
  · split
    · rfl
    · rw [if_pos (by omega)]

/-- The rung that a number is written at. -/
def rg (m : Nat) (e : Int) : Nat := if m = 0 then 0 else min ((max (e + m.log2 - 52) (-1074) - -1074).toNat * 4503599627370496 + Toward.even.cut false (m <<< (e - max (e + m.log2 - 52) (-1074)).toNat) (max (e + m.log2 - 52) (-1074) - e).toNat) 9218868437227405312
theorem write_rg (s : Bool) (m : Nat) (e : Int) : double.write (.number s m e) = double.word s (rg m e) := by
  show double.nearest s m e = _
  unfold Format.nearest rg
  dsimp only
  have hF : double.fractionBits = 52 := rfl
  have hc : ∀ n d, Toward.even.cut s n d = Toward.even.cut false n d := fun _ _ => rfl
  rw [double_least, double_inf, double_binade, hF, hc]
  split <;> rfl
theorem rg_le (m : Nat) (e : Int) : rg m e ≤ 9218868437227405312 := by
  unfold rg; split
  · omega
  · exact Nat.min_le_right _ _

/-- A number that is written and read again keeps its sign, or is an infinity of it. -/
theorem sign_write (s : Bool) (m : Nat) (e : Int) : (∃ m' e', double.read (double.write (.number s m e)) = .number s m' e') ∨ double.read (double.write (.number s m e)) = .infinity s := by
  rw [write_rg, read_rung s _ (rg_le m e)]
  split
  · exact Or.inl ⟨_, _, rfl⟩
  · split
    · exact Or.inl ⟨_, _, rfl⟩
    · exact Or.inr rfl
theorem opp_write (s : Bool) (m : Nat) (e : Int) : double.read (double.write (.number (!s) m e)) = (double.read (double.write (.number s m e))).opposite := by
  rw [write_rg, write_rg, read_rung _ _ (rg_le m e), read_rung _ _ (rg_le m e)]
  split
  · rfl
  · split <;> rfl

/-- No number below nought. -/
def Nn (x : Nat) : Prop := (∃ m e, double.read x = .number false m e) ∨ double.read x = .infinity false
/-- A number. -/
def Nm (x : Nat) : Prop := ∃ s m e, double.read x = .number s m e
theorem mul_nm {x y : Nat} (hx : Nm x) (hy : Nm y) : floatBits .mul .f64 x y = some (mulW x y) := by
  obtain ⟨s, m, e, h⟩ := hx
  obtain ⟨t, n, f, g⟩ := hy
  have : double.mul x y = some (double.write (.number (s ^^ t) (m * n) (e + f))) := by unfold Format.mul; rw [h, g]; rfl
  unfold mulW
  show double.mul x y = some ((double.mul x y).getD 0)
  rw [this]; rfl
theorem mulW_eq {x y : Nat} {s t : Bool} {m n : Nat} {e f : Int} (h : double.read x = .number s m e) (g : double.read y = .number t n f) : mulW x y = double.write (.number (s ^^ t) (m * n) (e + f)) := by
  have : double.mul x y = some (double.write (.number (s ^^ t) (m * n) (e + f))) := by unfold Format.mul; rw [h, g]; rfl
  unfold mulW
  show (double.mul x y).getD 0 = _
  rw [this]; rfl
theorem sq_nn {x : Nat} (hx : Nm x) : Nn (mulW x x) := by
  obtain ⟨s, m, e, h⟩ := hx
  rw [mulW_eq h h]
  have : (s ^^ s) = false := by cases s <;> rfl
  rw [this]
  exact sign_write _ _ _
theorem mul_opp {x y : Nat} (hx : Nm x) (hy : Nm y) : ∃ q, floatBits .mul .f64 x (ng y) = some q ∧ double.read q = (double.read (mulW x y)).opposite := by
  obtain ⟨s, m, e, h⟩ := hx
  obtain ⟨t, n, f, g⟩ := hy
  have hn : double.read (ng y) = .number (!t) n f := by rw [read_ng, g]; rfl
  have : double.mul x (ng y) = some (double.write (.number (s ^^ !t) (m * n) (e + f))) := by unfold Format.mul; rw [h, hn]; rfl
  refine ⟨_, this, ?_⟩
  rw [mulW_eq h g]
  have : (s ^^ !t) = !(s ^^ t) := by cases s <;> cases t <;> rfl
  rw [this, opp_write]
theorem signed_nn (m n u v : Nat) : signed false m u + signed false n v = ((m * 2 ^ u + n * 2 ^ v : Nat) : Int) := by
  unfold signed
  rw [if_neg (by decide), if_neg (by decide), Nat.shiftLeft_eq, Nat.shiftLeft_eq]
  omega
theorem addW_eq {x y : Nat} {m n : Nat} {e f : Int} (h : double.read x = .number false m e) (g : double.read y = .number false n f) : floatBits .add .f64 x y = some (addW x y) ∧ addW x y = double.write (.number false (m * 2 ^ (e - min e f).toNat + n * 2 ^ (f - min e f).toNat) (min e f)) := by
  have h0 := add_read h g
  rw [signed_nn] at h0
  have : (if (((m * 2 ^ (e - min e f).toNat + n * 2 ^ (f - min e f).toNat : Nat)) : Int) = 0 then false && false else decide ((((m * 2 ^ (e - min e f).toNat + n * 2 ^ (f - min e f).toNat : Nat)) : Int) < 0)) = false := by
    split
    · rfl
    · exact decide_eq_false (by omega)
  rw [this, Int.natAbs_natCast] at h0
  have h1 : addW x y = double.write (.number false (m * 2 ^ (e - min e f).toNat + n * 2 ^ (f - min e f).toNat) (min e f)) := by unfold addW; rw [h0]; rfl
  rw [h1]
  exact ⟨h0, rfl⟩
theorem add_inf {x y : Nat} (h : (double.read x = .infinity false ∧ Nn y) ∨ (Nn x ∧ double.read y = .infinity false)) : floatBits .add .f64 x y = some (addW x y) ∧ double.read (addW x y) = .infinity false := by
  have : double.add x y = some (double.write (.infinity false)) := by
    unfold Format.add
    rcases h with ⟨h, g | g⟩ | ⟨g | g, h⟩
    · obtain ⟨m, e, g⟩ := g; rw [h, g]; rfl
    · rw [h, g]; rfl
    · obtain ⟨m, e, g⟩ := g; rw [h, g]; rfl
    · rw [h, g]; rfl
  have h1 : addW x y = double.write (.infinity false) := by
    unfold addW
    show (double.add x y).getD 0 = _
    rw [this]; rfl
  rw [h1]
  refine ⟨this, ?_⟩
  decide +kernel
theorem add_nn {x y : Nat} (hx : Nn x) (hy : Nn y) : floatBits .add .f64 x y = some (addW x y) ∧ Nn (addW x y) := by
  rcases hx with ⟨m, e, h⟩ | h
  · rcases hy with ⟨n, f, g⟩ | g
    · have := addW_eq h g
      refine ⟨this.1, ?_⟩
      rw [this.2]
      exact sign_write _ _ _
    · have := add_inf (x := x) (y := y) (Or.inr ⟨Or.inl ⟨m, e, h⟩, g⟩)
      exact ⟨this.1, Or.inr this.2⟩
  · have := add_inf (x := x) (y := y) (Or.inl ⟨h, hy⟩)
    exact ⟨this.1, Or.inr this.2⟩
theorem sz_nn {p q : Nat} (hp : Nm p) (hq : Nm q) : Nn (szW p q) := (add_nn (sq_nn hp) (sq_nn hq)).2

/-- A word that stands above nought, by at least 2 ^ L. -/
def Lb (L : Int) (x : Nat) : Prop := (∃ m e, double.read x = .number false m e ∧ m ≠ 0 ∧ L ≤ e + m.log2) ∨ double.read x = .infinity false
theorem Lb.mono {L K : Int} {x : Nat} (h : Lb L x) (k : K ≤ L) : Lb K x := by
  rcases h with ⟨m, e, h1, h2, h3⟩ | h
  · exact Or.inl ⟨m, e, h1, h2, by omega⟩
  · exact Or.inr h
theorem cut_ge (s : Bool) (n d k : Nat) (h : 2 ^ (k + d) ≤ n) : 2 ^ k ≤ Toward.even.cut s n d := by
  have hd : d ≤ n.log2 + 2 := by
    have hn : n < 2 ^ (n.log2 + 1) := Nat.lt_log2_self
    have : 2 ^ (k + d) < 2 ^ (n.log2 + 1) := Nat.lt_of_le_of_lt h hn
    have := (Nat.pow_lt_pow_iff_right (by decide : 1 < 2)).1 this
    omega
  unfold Toward.cut
  dsimp only
  rw [Nat.min_eq_left hd, Nat.shiftLeft_eq, Nat.one_mul]
  have : 2 ^ k ≤ n / 2 ^ d := by
    rw [Nat.le_div_iff_mul_le (Nat.two_pow_pos _), ← Nat.pow_add]; exact h
  omega
/-- What is written of a great number is not less great. -/
theorem lb_write (m : Nat) (e : Int) (hm : m ≠ 0) (hE : -1074 ≤ e + m.log2) : Lb (e + m.log2) (double.write (.number false m e)) := by
  rw [write_rg]
  have hr := read_rung false _ (rg_le m e)
  unfold Lb
  rw [hr]
  have hdef : rg m e = min ((max (e + m.log2 - 52) (-1074) - -1074).toNat * 4503599627370496 + Toward.even.cut false (m <<< (e - max (e + m.log2 - 52) (-1074)).toNat) (max (e + m.log2 - 52) (-1074) - e).toNat) 9218868437227405312 := by
    unfold rg; rw [if_neg hm]
  have hk : 2 ^ (e + m.log2 - max (e + m.log2 - 52) (-1074)).toNat ≤ Toward.even.cut false (m <<< (e - max (e + m.log2 - 52) (-1074)).toNat) (max (e + m.log2 - 52) (-1074) - e).toNat := by
    apply cut_ge
    rw [Nat.shiftLeft_eq]
    have h2 := Nat.log2_self_le hm
    have h3 : 2 ^ ((e + m.log2 - max (e + m.log2 - 52) (-1074)).toNat + (max (e + m.log2 - 52) (-1074) - e).toNat) ≤ 2 ^ (m.log2 + (e - max (e + m.log2 - 52) (-1074)).toNat) := Nat.pow_le_pow_right (by decide) (by omega)
    rw [Nat.pow_add 2 m.log2] at h3
    exact Nat.le_trans h3 (Nat.mul_le_mul_right _ h2)
  generalize Toward.even.cut false (m <<< (e - max (e + m.log2 - 52) (-1074)).toNat) (max (e + m.log2 - 52) (-1074) - e).toNat = kept at hdef hk
  generalize rg m e = r at hdef hr ⊢
  by_cases c1 : r < 4503599627370496
  · left
    rw [if_pos c1]
    have hr0 : r = (max (e + m.log2 - 52) (-1074) - -1074).toNat * 4503599627370496 + kept := by omega
    have hl : max (e + m.log2 - 52) (-1074) = -1074 := by omega
    rw [hl] at hk hr0
    have hrk : r = kept := by omega
    subst hrk
    have hp : 0 < 2 ^ (e + m.log2 - -1074).toNat := Nat.two_pow_pos _
    refine ⟨r, -1074, rfl, by omega, ?_⟩
    have : (e + m.log2 - -1074).toNat ≤ r.log2 := by
      have hn : r < 2 ^ (r.log2 + 1) := Nat.lt_log2_self
      have := (Nat.pow_lt_pow_iff_right (by decide : 1 < 2)).1 (Nat.lt_of_le_of_lt hk hn)
      omega
    omega
  · rw [if_neg c1]
    by_cases c2 : r < 9218868437227405312
    · left
      rw [if_pos c2]
      have hr0 : r = (max (e + m.log2 - 52) (-1074) - -1074).toNat * 4503599627370496 + kept := by omega
      have hlog : (4503599627370496 + r % 4503599627370496).log2 = 52 := by
        have h1 : 4503599627370496 + r % 4503599627370496 ≠ 0 := by omega
        refine (Nat.log2_eq_iff h1).2 ⟨by omega, by omega⟩
      refine ⟨_, _, rfl, by omega, ?_⟩
      rw [hlog]
      by_cases hl : e + m.log2 - 52 ≤ -1074
      · omega
      · have hl2 : max (e + m.log2 - 52) (-1074) = e + m.log2 - 52 := by omega
        rw [hl2] at hk hr0
        have : (e + m.log2 - (e + m.log2 - 52)).toNat = 52 := by omega
        rw [this] at hk
        have : (2 : Nat) ^ 52 = 4503599627370496 := by decide
        rw [this] at hk
        omega
    · right
      rw [if_neg c2]
theorem log2_mul (m n : Nat) (hm : m ≠ 0) (hn : n ≠ 0) : m.log2 + n.log2 ≤ (m * n).log2 := by
  have h1 := Nat.log2_self_le hm
  have h2 := Nat.log2_self_le hn
  have h3 : 2 ^ (m.log2 + n.log2) ≤ m * n := by rw [Nat.pow_add]; exact Nat.mul_le_mul h1 h2
  have hn : m * n < 2 ^ ((m * n).log2 + 1) := Nat.lt_log2_self
  have := (Nat.pow_lt_pow_iff_right (by decide : 1 < 2)).1 (Nat.lt_of_le_of_lt h3 hn)
  omega
theorem log2_mono {m n : Nat} (hm : m ≠ 0) (h : m ≤ n) : m.log2 ≤ n.log2 := by
  have h1 := Nat.log2_self_le hm
  have hn : n < 2 ^ (n.log2 + 1) := Nat.lt_log2_self
  have := (Nat.pow_lt_pow_iff_right (by decide : 1 < 2)).1 (Nat.lt_of_le_of_lt (Nat.le_trans h1 h) hn)
  omega
theorem log2_two_pow (m k : Nat) (hm : m ≠ 0) : (m * 2 ^ k).log2 = m.log2 + k := by
  have h1 := Nat.log2_self_le hm
  have h2 : m < 2 ^ (m.log2 + 1) := Nat.lt_log2_self
  have hz : m * 2 ^ k ≠ 0 := by
    have := Nat.mul_pos (Nat.pos_of_ne_zero hm) (Nat.two_pow_pos k); omega
  refine (Nat.log2_eq_iff hz).2 ⟨?_, ?_⟩
  · rw [Nat.pow_add]; exact Nat.mul_le_mul_right _ h1
  · have : m.log2 + k + 1 = m.log2 + 1 + k := by omega
    rw [this, Nat.pow_add]; exact Nat.mul_lt_mul_of_pos_right h2 (Nat.two_pow_pos _)
theorem sq_lb {p : Nat} {s : Bool} {m : Nat} {e : Int} (h : double.read p = .number s m e) (hm : m ≠ 0) (hE : -537 ≤ e + m.log2) : Lb (2 * (e + m.log2)) (mulW p p) := by
  rw [mulW_eq h h]
  have : (s ^^ s) = false := by cases s <;> rfl
  rw [this]
  have hl := log2_mul m m hm hm
  have hz : m * m ≠ 0 := by have := Nat.mul_pos (Nat.pos_of_ne_zero hm) (Nat.pos_of_ne_zero hm); omega
  exact (lb_write (m * m) (e + e) hz (by omega)).mono (by omega)
theorem add_lb {L : Int} {x y : Nat} (hx : Lb L x) (hy : Nn y) (hL : -1074 ≤ L) : Lb L (addW x y) := by
  rcases hx with ⟨m, e, h, hm, hl⟩ | h
  · rcases hy with ⟨n, f, g⟩ | g
    · rw [(addW_eq h g).2]
      have h0 : m * 2 ^ (e - min e f).toNat ≠ 0 := by
        have := Nat.mul_pos (Nat.pos_of_ne_zero hm) (Nat.two_pow_pos (e - min e f).toNat); omega
      have h1 := log2_two_pow m (e - min e f).toNat hm
      have h2 := log2_mono h0 (Nat.le_add_right (m * 2 ^ (e - min e f).toNat) (n * 2 ^ (f - min e f).toNat))
      exact (lb_write _ (min e f) (by omega) (by omega)).mono (by omega)
    · exact Or.inr (add_inf (Or.inr ⟨Or.inl ⟨m, e, h⟩, g⟩)).2
  · exact Or.inr (add_inf (Or.inl ⟨h, hy⟩)).2
/-- All numbers are at least so far from nought. -/
theorem lb_least {x : Nat} {m : Nat} {e : Int} (h : double.read x = .number false m e) (hm : m ≠ 0) : Lb (-1074) x := by
  refine Or.inl ⟨m, e, h, hm, ?_⟩
  have : -1074 ≤ e := by
    unfold Format.read at h
    dsimp only at h
    rw [double_least] at h
    split at h
    · injection h with _ _ h; omega
    · split at h
      · injection h with _ _ h; omega
      · split at h <;> cases h
  omega
theorem order_zero {x : Nat} (h : Nn x) : (FloatKind.f64.format.order x 0 = some .gt ∧ Lb (-1074) x) ∨ FloatKind.f64.format.order x 0 = some .eq := by
  rcases h with ⟨m, e, h⟩ | h
  · have ho : FloatKind.f64.format.order x 0 = some (compare (signed false m (e - min e (-1074)).toNat) (signed false 0 ((-1074 : Int) - min e (-1074)).toNat)) := by
      show double.order _ _ = _
      unfold Format.order
      rw [h, zero_read]
      rfl
    have z : signed false 0 ((-1074 : Int) - min e (-1074)).toNat = 0 := by unfold signed; simp
    rw [z] at ho
    by_cases hm : m = 0
    · right
      rw [ho, hm]
      have : signed false 0 (e - min e (-1074)).toNat = 0 := by unfold signed; simp
      rw [this]; rfl
    · left
      refine ⟨?_, lb_least h hm⟩
      rw [ho]
      have : 0 < signed false m (e - min e (-1074)).toNat := by
        unfold signed
        rw [if_neg (by decide), Nat.shiftLeft_eq]
        have : 0 < m * 2 ^ (e - min e (-1074)).toNat := Nat.mul_pos (by omega) (Nat.two_pow_pos _)
        omega
      have h3 : compare (signed false m (e - min e (-1074)).toNat) 0 = .gt := by
        rw [Int.compare_eq_gt]; exact this
      rw [h3]
  · left
    refine ⟨?_, Or.inr h⟩
    show double.order _ _ = _
    unfold Format.order
    rw [h, zero_read]
    rfl
theorem order_self {x : Nat} (h : Nn x) : FloatKind.f64.format.order x x = some .eq := by
  rcases h with ⟨m, e, h⟩ | h
  · exact ord_self h
  · show double.order x x = _
    unfold Format.order
    rw [h]; rfl
/-- A quotient by what stands above nought. -/
theorem div_lb {k L K : Int} {x y : Nat} (hx : Bd k x) (hy : Lb L y) (hK : k + 1 - L ≤ K) (h1 : -1000 ≤ K) (h2 : K ≤ 1000) : floatBits .quo .f64 x y = some (divW x y) ∧ Bd (K + 1) (divW x y) := by
  obtain ⟨s, m, i, h, hb⟩ := hx
  suffices H : ∃ r, double.div x y = some r ∧ Bd (K + 1) r by
    obtain ⟨r, e, b⟩ := H
    have : divW x y = r := by
      unfold divW
      show (double.div x y).getD 0 = r
      rw [e]; rfl
    rw [this]
    exact ⟨e, b⟩
  rcases hy with ⟨n, j, g, hn, hl⟩ | g
  · refine ⟨double.write (.number (s ^^ false) (2 * ((m <<< (54 + n.log2 - m.log2)) / n) + ((m <<< (54 + n.log2 - m.log2)) % n != 0).toNat) (i - j - (54 + n.log2 - m.log2 : Nat) - 1)), ?_, ?_⟩
    · unfold Format.div
      rw [h, g]
      have hF : double.fractionBits + 2 = 54 := rfl
      rw [hF]
      simp only [Datum.quotient, if_neg hn]
      rfl
    · refine (bd_write _ _ _ K ?_ h1 h2).1
      by_cases hm : m = 0
      · left
        subst hm
        simp
      · right
        generalize hM : (54 + n.log2 - m.log2 : Nat) = M
        rw [Nat.shiftLeft_eq]
        have hA : m * 2 ^ M / n < 2 ^ (m.log2 + 1 + M - n.log2) := by
          have h3 := Nat.log2_self_le hn
          have h4 : m < 2 ^ (m.log2 + 1) := Nat.lt_log2_self
          apply Nat.div_lt_of_lt_mul
          have h5 : m * 2 ^ M < 2 ^ (m.log2 + 1 + M) := by
            rw [Nat.pow_add]; exact Nat.mul_lt_mul_of_pos_right h4 (Nat.two_pow_pos _)
          have h6 : 2 ^ (m.log2 + 1 + M) = 2 ^ n.log2 * 2 ^ (m.log2 + 1 + M - n.log2) := by
            rw [← Nat.pow_add]; congr 1; omega
          rw [h6] at h5
          exact Nat.lt_of_lt_of_le h5 (Nat.mul_le_mul_right _ h3)
        have hB : 2 * (m * 2 ^ M / n) + (m * 2 ^ M % n != 0).toNat < 2 ^ (m.log2 + 1 + M - n.log2 + 1) := by
          rw [Nat.pow_succ]
          have : (m * 2 ^ M % n != 0).toNat ≤ 1 := Bool.toNat_le _
          omega
        have := log2_le hB
        omega
  · refine ⟨double.write (.number (s ^^ false) 0 0), ?_, ?_⟩
    · unfold Format.div
      rw [h, g]
      rfl
    · exact (bd_write _ 0 0 K (Or.inl rfl) h1 h2).1

/-- The words of 1, and of a product by nought. -/
abbrev one : Nat := 4607182418800017408
theorem one_bd : Bd 0 one := ⟨false, 4503599627370496, -52, one_read, by right; decide⟩
theorem zero_bd (k : Int) : Bd k 0 := ⟨false, 0, -1074, zero_read, Or.inl rfl⟩
theorem Bd.nm {k : Int} {x : Nat} (h : Bd k x) : Nm x := h.num
theorem mulW_zero {x : Nat} (h : Nm x) (k : Int) : Bd k (mulW 0 x) := by
  obtain ⟨s, m, e, h⟩ := h
  rw [mulW_eq zero_read h, Nat.zero_mul]
  obtain ⟨m', e', h1, h2⟩ := (bd_write (false ^^ s) 0 (-1074 + e) 0 (Or.inl rfl) (by omega) (by omega)).2
  exact ⟨_, m', e', h1, Or.inl (h2 rfl)⟩

/-- What 1 by a Cnum is reckoned by. -/
structure CInv (p q : Nat) : Prop where
  a1 : floatBits .mul .f64 one p = some (mulW one p)
  a2 : floatBits .mul .f64 0 q = some (mulW 0 q)
  a3 : floatBits .mul .f64 one q = some (mulW one q)
  a4 : floatBits .mul .f64 0 p = some (mulW 0 p)
  re : floatBits .add .f64 (mulW one p) (mulW 0 q) = some (dRe one 0 p q)
  im : floatBits .sub .f64 (mulW 0 p) (mulW one q) = some (dIm one 0 p q)
  bits : cMulBits one 0 p (ng q) = some (dRe one 0 p q, dIm one 0 p q)
  pp : floatBits .mul .f64 p p = some (mulW p p)
  qq : floatBits .mul .f64 q q = some (mulW q q)
  sz : floatBits .add .f64 (mulW p p) (mulW q q) = some (szW p q)
  nn : Nn (szW p q)

theorem cinv_bd {p q : Nat} (hp : Bd 545 p) (hq : Bd 545 q) : CInv p q := by
  have m1 := mulW_bd one_bd hp (by omega) (by omega)
  have m3 := mulW_bd one_bd hq (by omega) (by omega)
  have z1 := mulW_zero hq.nm 547
  have z2 := mulW_zero hp.nm 547
  have s1 := addW_bd m1.2 z1 (by omega) (by omega)
  have s2 := subW_bd z2 m3.2 (by omega) (by omega)
  have e2 := mul_nm (zero_bd 0).nm hq.nm
  have e4 := mul_nm (zero_bd 0).nm hp.nm
  obtain ⟨r1, hr1, rr1⟩ := mul_opp (zero_bd 0).nm hq.nm
  obtain ⟨r2, hr2, rr2⟩ := mul_opp one_bd.nm hq.nm
  have hsub : floatBits .sub .f64 (mulW one p) r1 = some (dRe one 0 p q) := by
    rw [sub_ng, add_of_read rfl (y' := mulW 0 q) (by rw [read_ng, rr1, opp_opp])]
    exact s1.1
  have hadd : floatBits .add .f64 r2 (mulW 0 p) = some (dIm one 0 p q) := by
    rw [add_comm, add_of_read rfl (y' := ng (mulW one q)) (by rw [read_ng, rr2]), ← sub_ng]
    exact s2.1
  refine ⟨m1.1, e2, m3.1, e4, s1.1, s2.1, ?_, mul_nm hp.nm hp.nm, mul_nm hq.nm hq.nm, (add_nn (sq_nn hp.nm) (sq_nn hq.nm)).1, sz_nn hp.nm hq.nm⟩
  unfold cMulBits
  rw [m1.1, hr1, hr2, e4]
  simp only [Option.bind_some]
  rw [hsub, hadd]
  rfl

theorem tight {p : Nat} {k : Int} (hp : Bd k p) : ∃ j, Bd j p ∧ -538 ≤ j ∧ j ≤ max k (-538) ∧ (j = -538 ∨ Lb (2 * j) (mulW p p) ∧ -537 ≤ j) := by
  obtain ⟨s, m, e, h, hb⟩ := hp
  by_cases hm : m = 0
  · exact ⟨-538, ⟨s, m, e, h, Or.inl hm⟩, by omega, by omega, Or.inl rfl⟩
  · by_cases hE : -537 ≤ e + m.log2
    · exact ⟨e + m.log2, ⟨s, m, e, h, Or.inr (Int.le_refl _)⟩, by omega, by omega, Or.inr ⟨sq_lb h hm hE, hE⟩⟩
    · exact ⟨-538, ⟨s, m, e, h, Or.inr (by omega)⟩, by omega, by omega, Or.inl rfl⟩

theorem inv_re {p q : Nat} (hp : Bd 545 p) (hq : Bd 545 q) (hg : Lb (-1074) (szW p q)) : floatBits .quo .f64 (dRe one 0 p q) (szW p q) = some (divW (dRe one 0 p q) (szW p q)) ∧ Bd 543 (divW (dRe one 0 p q) (szW p q)) := by
  obtain ⟨j, hj, h1, h2, h3⟩ := tight hp
  have m1 := mulW_bd one_bd hj (by omega) (by omega)
  have s1 := addW_bd (m1.2.mono (by omega)) (mulW_zero hq.nm (j + 2)) (by omega) (by omega)
  have hb : Bd (j + 4) (dRe one 0 p q) := s1.2.mono (by omega)
  rcases h3 with h3 | ⟨h3, h4⟩
  · exact div_lb (K := 542) hb hg (by omega) (by omega) (by omega)
  · exact div_lb (K := 542) hb (add_lb h3 (sq_nn hq.nm) (by omega)) (by omega) (by omega) (by omega)
theorem addW_comm (x y : Nat) : addW x y = addW y x := by unfold addW; rw [add_comm]
theorem inv_im {p q : Nat} (hp : Bd 545 p) (hq : Bd 545 q) (hg : Lb (-1074) (szW p q)) : floatBits .quo .f64 (dIm one 0 p q) (szW p q) = some (divW (dIm one 0 p q) (szW p q)) ∧ Bd 543 (divW (dIm one 0 p q) (szW p q)) := by
  obtain ⟨j, hj, h1, h2, h3⟩ := tight hq
  have m1 := mulW_bd one_bd hj (by omega) (by omega)
  have s1 := subW_bd (mulW_zero hp.nm (j + 2)) (m1.2.mono (by omega)) (by omega) (by omega)
  have hb : Bd (j + 4) (dIm one 0 p q) := s1.2.mono (by omega)
  rcases h3 with h3 | ⟨h3, h4⟩
  · exact div_lb (K := 542) hb hg (by omega) (by omega) (by omega)
  · have : Lb (2 * j) (szW p q) := by unfold szW; rw [addW_comm]; exact add_lb h3 (sq_nn hp.nm) (by omega)
    exact div_lb (K := 542) hb this (by omega) (by omega) (by omega)

/-- 1 by a Cnum. -/
def qRe (p q : Nat) : Nat := if posB p q then divW (dRe one 0 p q) (szW p q) else 0
def qIm (p q : Nat) : Nat := if posB p q then divW (dIm one 0 p q) (szW p q) else 0
theorem q_bd {p q : Nat} (hp : Bd 545 p) (hq : Bd 545 q) : Bd 543 (qRe p q) ∧ Bd 543 (qIm p q) := by
  unfold qRe qIm posB
  rcases order_zero (sz_nn hp.nm hq.nm) with ⟨ho, hg⟩ | ho
  · rw [ho]
    exact ⟨(inv_re hp hq hg).2, (inv_im hp hq hg).2⟩
  · rw [ho]
    exact ⟨zero_bd _, zero_bd _⟩

/-- Is it nought? -/
def zeroB (p q : Nat) : Bool := (FloatKind.f64.format.order p 0 == some .eq) && (FloatKind.f64.format.order q 0 == some .eq)
/-- One rung: what is beside it, and what it makes of that. -/
def yRe (p q : Nat) : Nat := if zeroB p q then 0 else addW 0 (qRe p q)
def yIm (g p q : Nat) : Nat := if zeroB p q then g else addW g (qIm p q)
def zRe (d g p q : Nat) : Nat := addW d (qRe (yRe p q) (yIm g p q))
def zIm (m g p q : Nat) : Nat := addW m (qIm (yRe p q) (yIm g p q))
theorem y_bd {g p q : Nat} (hp : Bd 545 p) (hq : Bd 545 q) (hg : Bd 60 g) : (Bd 545 (yRe p q) ∧ Bd 545 (yIm g p q)) ∧ floatBits .add .f64 0 (qRe p q) = some (addW 0 (qRe p q)) ∧ floatBits .add .f64 g (qIm p q) = some (addW g (qIm p q)) := by
  have h := q_bd hp hq
  have s1 := addW_bd (zero_bd 543) h.1 (by omega) (by omega)
  have s2 := addW_bd (hg.mono (by omega : (60 : Int) ≤ 543)) h.2 (by omega) (by omega)
  refine ⟨?_, s1.1, s2.1⟩
  unfold yRe yIm
  split
  · exact ⟨zero_bd _, hg.mono (by omega)⟩
  · exact ⟨s1.2.mono (by omega), s2.2.mono (by omega)⟩
theorem z_bd {d m g p q : Nat} (hp : Bd 545 p) (hq : Bd 545 q) (hg : Bd 60 g) (hd : Bd 29 d) (hm : Bd 60 m) : (Bd 545 (zRe d g p q) ∧ Bd 545 (zIm m g p q)) ∧ floatBits .add .f64 d (qRe (yRe p q) (yIm g p q)) = some (zRe d g p q) ∧ floatBits .add .f64 m (qIm (yRe p q) (yIm g p q)) = some (zIm m g p q) := by
  have y := (y_bd hp hq hg).1
  have h := q_bd y.1 y.2
  have s1 := addW_bd (hd.mono (by omega : (29 : Int) ≤ 543)) h.1 (by omega) (by omega)
  have s2 := addW_bd (hm.mono (by omega : (60 : Int) ≤ 543)) h.2 (by omega) (by omega)
  exact ⟨⟨s1.2.mono (by omega), s2.2.mono (by omega)⟩, s1.1, s2.1⟩
theorem prod_bd {x y : Nat} (hx : Bd 29 x) (hy : Bd 29 y) : floatBits .mul .f64 x y = some (mulW x y) ∧ Bd 60 (mulW x y) := by
  have := mulW_bd hx hy (by omega) (by omega)
  exact ⟨this.1, this.2.mono (by omega)⟩

theorem order_any {x : Nat} (h : Nm x) : ∃ o, FloatKind.f64.format.order x 0 = some o := by
  obtain ⟨s, m, e, h⟩ := h
  refine ⟨compare (signed s m (e - min e (-1074)).toNat) (signed false 0 ((-1074 : Int) - min e (-1074)).toNat), ?_⟩
  show double.order x 0 = _
  unfold Format.order
  rw [h, zero_read]
  rfl
theorem zero_cases {p q : Nat} (hp : Nm p) (hq : Nm q) :
    (FloatKind.f64.format.order p 0 = some .eq ∧ FloatKind.f64.format.order q 0 = some .eq ∧ yRe p q = 0 ∧ ∀ g, yIm g p q = g) ∨
    ((FloatKind.f64.format.order p 0 = some .lt ∨ FloatKind.f64.format.order p 0 = some .gt) ∧ yRe p q = addW 0 (qRe p q) ∧ ∀ g, yIm g p q = addW g (qIm p q)) ∨
    (FloatKind.f64.format.order p 0 = some .eq ∧ (FloatKind.f64.format.order q 0 = some .lt ∨ FloatKind.f64.format.order q 0 = some .gt) ∧ yRe p q = addW 0 (qRe p q) ∧ ∀ g, yIm g p q = addW g (qIm p q)) := by
  obtain ⟨o1, h1⟩ := order_any hp
  obtain ⟨o2, h2⟩ := order_any hq
  unfold yRe yIm zeroB
  rw [h1, h2]
  cases o1
  · exact Or.inr (Or.inl ⟨Or.inl rfl, rfl, fun _ => rfl⟩)
  · cases o2
    · exact Or.inr (Or.inr ⟨rfl, Or.inl rfl, rfl, fun _ => rfl⟩)
    · exact Or.inl ⟨rfl, rfl, rfl, fun _ => rfl⟩
    · exact Or.inr (Or.inr ⟨rfl, Or.inr rfl, rfl, fun _ => rfl⟩)
  · exact Or.inr (Or.inl ⟨Or.inr rfl, rfl, fun _ => rfl⟩)

/-- A ladder's answer behind its last k rungs. -/
def lad (n : Nat) (f g h : Nat → Nat) (t : Nat) : Nat → Nat × Nat
  | 0 => (0, 0)
  | k + 1 => (zRe (f (n - 1 - k)) (mulW (h (n - 1 - k)) t) (lad n f g h t k).1 (lad n f g h t k).2, zIm (mulW (g (n - 1 - k)) t) (mulW (h (n - 1 - k)) t) (lad n f g h t k).1 (lad n f g h t k).2)
theorem lad_bd {n : Nat} {f g h : Nat → Nat} {t : Nat} (hf : ∀ i, i < n → Bd 29 (f i)) (hg : ∀ i, i < n → Bd 29 (g i)) (hh : ∀ i, i < n → Bd 29 (h i)) (ht : Bd 29 t) : ∀ k, k ≤ n → Bd 545 (lad n f g h t k).1 ∧ Bd 545 (lad n f g h t k).2 := by
  intro k
  induction k with
  | zero => intro _; exact ⟨zero_bd _, zero_bd _⟩
  | succ k ih =>
    intro hk
    have h0 := ih (by omega)
    exact (z_bd h0.1 h0.2 (prod_bd (hh (n - 1 - k) (by omega)) ht).2 (hf (n - 1 - k) (by omega)) (prod_bd (hg (n - 1 - k) (by omega)) ht).2).1

end Go.Proofs.Ytlipgnjknfmikaa.Fl
