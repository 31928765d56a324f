/-
  Loops within their limits, and prefixes of runs; the laws' comparison of lists.
-/
import Derived.Test.YtplghjghecfeoaaDoorLrEx2
import Derived.Test.YtplghjghecfeoaaDoorLrS1
import Derived.Test.YtplghjghecfeoaaDoorLrD2
import Derived.Test.YtplghjghecfeoaaDoorLwAt
import Derived.Deep.QuietTactic
import Derived.BigQuiet
namespace Go.Proofs.YtplghjghecfeoaaDoor
open Go.RowKit Go.Deep

namespace Fl
open Ieee
theorem order_swap {x y : Nat} (hx : ∃ s m e, double.read x = .number s m e) (hy : ∃ s m e, double.read y = .number s m e) : FloatKind.f64.format.order y x = (FloatKind.f64.format.order x y).map Ordering.swap := by
  obtain ⟨s, m, e, h1⟩ := hx
  obtain ⟨t, n, f, h2⟩ := hy
  show double.order y x = (double.order x y).map _
  unfold Format.order
  rw [h1, h2]
  show some (compare (signed t n (f - min f e).toNat) (signed s m (e - min f e).toNat)) = some (Ordering.swap (compare (signed s m (e - min e f).toNat) (signed t n (f - min e f).toNat)))
  rw [Int.compare_swap, Int.min_comm]
theorem order_self {x : Nat} (hx : ∃ s m e, double.read x = .number s m e) : FloatKind.f64.format.order x x = some .eq := by
  obtain ⟨s, m, e, h1⟩ := hx
  show double.order x x = _
  unfold Format.order
  rw [h1]
  simp [Datum.order]
theorem le_not {x y : Nat} (hx : ∃ s m e, double.read x = .number s m e) (hy : ∃ s m e, double.read y = .number s m e) (h : leB x y = true) : FloatKind.f64.format.order x y ≠ some .gt ∧ FloatKind.f64.format.order y x ≠ some .lt := by
  rw [order_swap hx hy]
  unfold leB at h
  obtain ⟨o, ho⟩ := order_num hx hy
  rw [ho] at h ⊢
  cases o
  · exact ⟨by simp, by simp [Ordering.swap]⟩
  · exact ⟨by simp, by simp [Ordering.swap]⟩
  · exact absurd h (by decide)
/-- A drive stands within its limits. -/
theorem nx_lim {l : Lo} (hl : LoOk l) (hle : leB l.low l.high = true) (want : Nat) (x : Ls) : FloatKind.f64.format.order (nx l want x).d l.low ≠ some .lt ∧ FloatKind.f64.format.order (nx l want x).d l.high ≠ some .gt := by
  have h1 := le_not (meas_bd hl.low).num (meas_bd hl.high).num hle
  unfold nx
  by_cases c1 : FloatKind.f64.format.order (drvW l want x) l.low = some .lt
  · rw [if_pos c1]
    exact ⟨by show FloatKind.f64.format.order l.low l.low ≠ _; rw [order_self (meas_bd hl.low).num]; simp, h1.1⟩
  · rw [if_neg c1]
    by_cases c2 : FloatKind.f64.format.order (drvW l want x) l.high = some .gt
    · rw [if_pos c2]
      exact ⟨h1.2, by show FloatKind.f64.format.order l.high l.high ≠ _; rw [order_self (meas_bd hl.high).num]; simp⟩
    · rw [if_neg c2]
      exact ⟨c1, c2⟩
theorem code_facts {l : Lo} {start n : Nat} {f : Nat → Nat} (h : loopCode l start n f = 0) : n ≤ 200 ∧ loopOk l start n f = true ∧ okTo l start f n = true := by
  unfold loopCode at h
  by_cases c1 : 200 < n
  · rw [if_pos c1] at h; cases h
  · rw [if_neg c1] at h
    cases c2 : loopOk l start n f
    · rw [c2] at h; cases h
    · rw [c2, if_pos rfl] at h
      cases c3 : okTo l start f n
      · rw [c3] at h; cases h
      · exact ⟨by omega, rfl, rfl⟩
theorem code_prefix {l : Lo} {start n k : Nat} {f : Nat → Nat} (h : loopCode l start n f = 0) (hk : k ≤ n) : loopCode l start k f = 0 ∧ loopLen l start k f = k := by
  obtain ⟨h1, h2, h3⟩ := code_facts h
  have h4 : loopOk l start k f = true := by
    unfold loopOk at h2 ⊢
    obtain ⟨a1, a2⟩ := Bool.and_eq_true_iff.1 h2
    obtain ⟨a2, a3⟩ := Bool.and_eq_true_iff.1 a2
    rw [a1, a2, allB_of (fun i hi => allB_at a3 i (by omega))]
    rfl
  have h5 : loopCode l start k f = 0 := by
    unfold loopCode
    rw [if_neg (by omega), h4, okTo_le h3 hk]
    rfl
  exact ⟨h5, by unfold loopLen; rw [h5, if_pos rfl]⟩
theorem code_lim {l : Lo} {start n : Nat} {f : Nat → Nat} (h : loopCode l start n f = 0) (i : Nat) : FloatKind.f64.format.order (st l start f (i + 1)).d l.low ≠ some .lt ∧ FloatKind.f64.format.order (st l start f (i + 1)).d l.high ≠ some .gt := by
  obtain ⟨_, h2, _⟩ := code_facts h
  unfold loopOk rightL at h2
  obtain ⟨a1, _⟩ := Bool.and_eq_true_iff.1 h2
  obtain ⟨a1, a2⟩ := Bool.and_eq_true_iff.1 a1
  obtain ⟨_, a3⟩ := Bool.and_eq_true_iff.1 a2
  obtain ⟨_, a4⟩ := Bool.and_eq_true_iff.1 a3
  exact nx_lim (loOk_of a1) a4 (f i) (st l start f i)
end Fl
theorem FlAt.cut {a : Option Addr} {n k : Nat} {f : Nat → Nat} {w : World} (h : FlAt a n f w) (hk : k ≤ n) : FlAt a k f w := by
  rcases h with h | ⟨g, h1, h2⟩
  · exact Or.inl (by omega)
  · exact Or.inr ⟨g, h1, fun i hi => h2 i (by omega)⟩
theorem OwnF.cap {B : Nat} {a : Option Addr} {n k : Nat} {f : Nat → Nat} {W : World} (h : OwnF B (.slice a n k) n f W) : n ≤ k := by
  rcases h.row with ⟨e, rfl⟩ | ⟨g, cap, F, e, _, h2, _⟩
  · exact Nat.zero_le _
  · injection e with _ _ e3; omega
theorem lo_code (a1 : Option Addr) (n1 k1 : Nat) (a2 : Option Addr) (n2 k2 : Nat) (c : Int) (w : World) : (Instr.field 30 (.agg #[.slice a1 n1 k1, .slice a2 n2 k2, .int .i64 c]) 2).run Tryd.prog w = .ok (.int .i64 c) w := by kernel_rfl
theorem only_set3 {w : World} {g : Nat} (x y z : Value) : OnlyP (fun q => q = g) w (((w.setCell ⟨g, 0, none⟩ x).setCell ⟨g, 1, none⟩ y).setCell ⟨g, 2, none⟩ z) :=
  ⟨rfl, rfl, rfl, by simp, fun k _ hn => (blk_setCell_other _ _ _ _ (by show k ≠ g; exact hn)).trans ((blk_setCell_other _ _ _ _ (by show k ≠ g; exact hn)).trans (blk_setCell_other _ _ _ _ (by show k ≠ g; exact hn)))⟩
theorem lstep_append {P : Program} {ops : Array Oper} {o : Oper} {a : Act} {w : World} {K : Act → World → Prop} {Q : Exit → Act → World → Prop} {E : Prop}
    (hg : o.guard = none) (s x : Operand) (t : TypeId) (hop : o.op = Op.call { callee := Callee.builtin Builtin.append, args := #[s, x], argTypes := #[t, t] }) (B : Nat)
    (e : TypeId) (i : TypeInfo) (z : Value) (size bytes : Nat) (h1 : P.underlying t = some (.slice e)) (h2 : P.info? e = some i) (h3 : i.zero = some z) (h4 : i.size = size) (h5 : i.bytes = bytes) (h6 : z.cells.size = size) (h7 : 0 < size)
    (v : Value) (n : Nat) (olds : List Value) (hs : a.eval s = v) (hown : w.ownsRow B e size v n olds)
    (ad : Addr) (m c : Nat) (news : List Value) (hx : a.eval x = .slice (some ad) m c) (hn : news.length = m * size) (hc : ∀ j u, news[j]? = some u → w.cell? (ad.add j) = some u) (h1c : ∀ u ∈ news, u.oneCell' = true)
    (b1 : n + m ≤ maxLen) (b2 : (n + m) * bytes ≤ 140737488355328) (hB : B ≤ w.heap.size)
    (hK : ∀ v' w', w'.ownsRow B e size v' (n + m) (olds ++ news) → w.grownBy w' v.ownBlock → K (a.put o.dst v') w') :
    if Region.wanted o (yielded ops a.tmps) = true then Oper.wp P o a w K Q else E := by
  have hw : Region.wanted o (yielded ops a.tmps) = true := by simp [Region.wanted, hg]
  rw [if_pos hw]
  obtain ⟨v', w', hrun, r1, r2, _⟩ := run_append_own (P := P) w B t o.type e i z size bytes h1 h2 h3 h4 h5 h6 h7 v n olds hown ad m c news hn hc h1c b1 b2 hB
  unfold Oper.wp
  simp [execOp, hop, resolve, invoke, builtin, hs, hx, hrun, Result.andThen]
  exact hK v' w' r1 r2
set_option maxHeartbeats 400000 in
theorem lwF_same (x : Nat) (w : World) :
    Calls Tryd.prog 26 #[.float .f64 x, .float .f64 x] w fun e w' => e = .returned (.bool true) ∧ w' = w := by
  by_cases h1 : FloatKind.f64.format.order x x = some .eq
  · by_cases h2 : FloatKind.f64.format.order x 0 = some .eq
    · obtain ⟨r, hr⟩ := Fl.div_zero x h2
      have hq := fun (wx : World) => run_float_arith (P := Tryd.prog) (w := wx) .quo 23 .f64 4607182418800017408 x r hr
      clear hr
      go_enter Tryd.func26, Tryd.ntmps26
      go_wp2
      go_ret
      exact ⟨rfl, rfl⟩
    · go_enter Tryd.func26, Tryd.ntmps26
      go_wp2
      go_ret
      exact ⟨rfl, rfl⟩
  · have h1' : (FloatKind.f64.format.order x x != some .eq) = true := by simpa using h1
    go_enter Tryd.func26, Tryd.ntmps26
    go_wp2
    go_ret
    exact ⟨rfl, rfl⟩
set_option maxHeartbeats 1000000 in
theorem lwFl_same (a b : Option Addr) (n c1 c2 : Nat) (f : Nat → Nat) (w : World) (h1 : FlAt a n f w) (h2 : FlAt b n f w) (hn : n ≤ 1048576) :
    Calls Tryd.prog 9 #[.slice a n c1, .slice b n c2] w fun e w' => e = .returned (.bool true) ∧ ∃ m, w' = w.drewN m := by
  have hne : ((n : Int) != (n : Int)) = false := by simp
  have H1 := Lib.hid h1
  have H2 := Lib.hid h2
  clear h1 h2
  go_enter Tryd.func9, Tryd.ntmps9
  go_wp2
  go_loopw [5] (fun i wx => ∃ k m : Nat, k ≤ n ∧ i = .int .i64 k ∧ Hid (wx = w.drewN m)) (fun i _ => n - (intOf i).toNat)
  case atStart => exact ⟨0, 0, Nat.zero_le _, rfl, rfl⟩
  case round =>
    obtain ⟨k, m, hk, rfl, hw⟩ := hrel
    by_cases hlt : k < n
    · have hltz : (k : Int) < (n : Int) := by omega
      have hk0 : (0 : Int) ≤ (k : Int) := by omega
      have hB : Below w.heap.size w wr := by rw [hw.out]; exact below_drewN (Below.refl _ _) m
      obtain ⟨g1, rfl, k1⟩ := (H1.out.below hB).at_ hlt
      obtain ⟨g2, rfl, k2⟩ := (H2.out.below hB).at_ hlt
      clear hB
      go_wp2_with fail
      go_quiet ((go_at_call 26; exact Calls.quiet_of_same (lwF_same _ _)))
      go_wp2
      go_roundw
      case rel => exact ⟨k + 1, _, by omega, by go_num, by show _ = _; rw [hw.out]; exact World.drewN_drewN _ _ _⟩
      case measure => simp [intOf]; omega
    · go_wp2
      go_ret
      exact ⟨rfl, m, hw.out⟩
end Go.Proofs.YtplghjghecfeoaaDoor
