/-
  The program's windows of reads: made, filled, cleared, asked whether they are full, read.
-/
import Derived.Test.YtlipgnjknfmikaaLpFl
import Derived.Test.YtlipgnjknfmikaaSum
import Derived.Test.YtlipgnjknfmikaaDraw
import Derived.Test.YtlipgnjknfmikaaLkMath
import Derived.Laws.CopyOwn
import Derived.Lib.SliceRun
namespace Go.Proofs.Ytlipgnjknfmikaa
open Go.RowKit Go.Deep

/-- The cells of a window of s places. -/
def wcell (s : Nat) (ys : List Nat) (i : Nat) : Value := if i % 2 = 0 then .float .f64 (Lk.slotR s ys (i / 2)) else .bool (Lk.slotS s ys (i / 2))
def Win (g s : Nat) (ys : List Nat) (W : World) : Prop := W.rowIs g 67 (s * 2) (wcell s ys)
theorem wcell_even (s : Nat) (ys : List Nat) (j : Nat) : wcell s ys (j * 2) = .float .f64 (Lk.slotR s ys j) := by
  unfold wcell; rw [if_pos (by omega), show j * 2 / 2 = j by omega]
theorem wcell_odd (s : Nat) (ys : List Nat) (j : Nat) : wcell s ys (j * 2 + 1) = .bool (Lk.slotS s ys j) := by
  unfold wcell; rw [if_neg (by omega), show (j * 2 + 1) / 2 = j by omega]
theorem wcell_one (s : Nat) (ys : List Nat) (i : Nat) : (wcell s ys i).oneCell' = true := by unfold wcell; split <;> rfl
theorem wcell_snoc {s : Nat} {ys : List Nat} {x i : Nat} (h : i < (s - 1) * 2) : wcell s (ys ++ [x]) i = wcell s ys (i + 2) := by
  unfold wcell
  rw [show (i + 2) % 2 = i % 2 by omega, show (i + 2) / 2 = i / 2 + 1 by omega, Lk.slotR_snoc (by omega), Lk.slotS_snoc]

theorem size_sg : (Try.prog.info? 67).map (·.size) = some 2 := by kernel_rfl
theorem run_copy_row2 (w : World) (ty : TypeId) (g o dLen dCap : Nat) (a : Addr) (sLen sCap : Nat) (cur : Array Value) (t : TypeId) (cs : List Value)
    (hg : w.heap[g]? = some (.cells cur t (0, 0))) (hn : cs.length = Nat.min sLen dLen * 2)
    (hsrc : ∀ j v, cs[j]? = some v → w.cell? (a.add j) = some v) (hfit : o + cs.length ≤ cur.size) (h1 : ∀ v ∈ cs, v.oneCell' = true) :
    (Builtin.copy_ #[60, 60] ty #[.slice (some ⟨g, o, none⟩) dLen dCap, .slice (some a) sLen sCap]).run Try.prog w =
      .ok (goInt (Nat.min sLen dLen)) (w.setRow g (cur.toList.take o ++ cs ++ cur.toList.drop (o + cs.length)).toArray) := by
  have hl := run_loadCells_list (P := Try.prog) w a cs hsrc
  have hst := run_storeCells_at Try.prog g o t cs 0 cur w hg (by simpa using hfit) h1
  have hs := size_sg
  cases hq : Try.prog.info? 67 with
  | none => simp [hq] at hs
  | some i =>
    have hi : i.size = 2 := by simpa [hq] using hs
    simp [Builtin.copy_, run_underlying Try.underlying60, Builtin.lenOf, Builtin.firstCells, sizeOf, typeInfo, hq, hi, ← hn, hl, hst]
theorem setRow_is {w : World} {g : Nat} {cur : Array Value} {t : TypeId} {n : Nat} {F : Nat → Value} (hg : w.heap[g]? = some (.cells cur t (0, 0))) (l : List Value) (hl : l.length = n) (hF : ∀ i, i < n → l[i]? = some (F i)) : (w.setRow g l.toArray).rowIs g t n F :=
  ⟨_, setRow_heap w g _ _ t _ hg, by simpa using hl, fun i hi => by rw [List.getElem?_toArray]; exact hF i hi⟩
theorem chg_setRow (w : World) (g : Nat) (cs : Array Value) : Chg g w (w.setRow g cs) := ⟨rfl, rfl, rfl, by simp [World.setRow], fun k _ h2 => setRow_other w g k cs (by omega)⟩

theorem win_copy {g s : Nat} {ys : List Nat} {W : World} (h : Win g s ys W) (ty : TypeId) :
    ∃ W', (Builtin.copy_ #[60, 60] ty #[.slice (some ⟨g, 0, none⟩) s s, .slice (some ⟨g, 2, none⟩) (s - 1) (s - 1)]).run Try.prog W = .ok (goInt ((s - 1 : Nat) : Int)) W' ∧ W'.rowIs g 67 (s * 2) (fun i => if i < (s - 1) * 2 then wcell s ys (i + 2) else wcell s ys i) ∧ Chg g W W' := by
  obtain ⟨cur, hg, hsz, hcur⟩ := h
  have hmin : Nat.min (s - 1) s = s - 1 := Nat.min_eq_left (by omega)
  have hlen : ((List.range ((s - 1) * 2)).map (fun i => wcell s ys (i + 2))).length = (s - 1) * 2 := by simp
  have hrun := run_copy_row2 W ty g 0 s s ⟨g, 2, none⟩ (s - 1) (s - 1) cur 67 ((List.range ((s - 1) * 2)).map (fun i => wcell s ys (i + 2))) hg (by rw [hlen, hmin]) (by
    intro j v hj
    have hjl := (List.getElem?_eq_some_iff.1 hj).1
    rw [hlen] at hjl
    simp [hjl] at hj
    subst hj
    rw [Addr.add_lit]
    have : cur[j + 2]? = some (wcell s ys (j + 2)) := hcur _ (by omega)
    show World.cell? W ⟨g, 2 + j, none⟩ = _
    rw [show 2 + j = j + 2 by omega]
    simp [World.cell?, hg, this]) (by rw [hlen]; omega) (by
    intro v hv
    obtain ⟨j, _, rfl⟩ := List.mem_map.1 hv
    exact wcell_one _ _ _)
  rw [hmin] at hrun
  refine ⟨_, hrun, setRow_is hg _ ?_ ?_, chg_setRow _ _ _⟩
  · simp [hsz]; omega
  · intro i hi
    have hc := hcur i hi
    rw [List.take_zero, List.nil_append, hlen]
    by_cases c : i < (s - 1) * 2
    · rw [if_pos c, List.getElem?_append_left (by rw [hlen]; exact c)]
      simp [c]
    · rw [if_neg c, List.getElem?_append_right (by rw [hlen]; omega), hlen, List.getElem?_drop, show 0 + (s - 1) * 2 + (i - (s - 1) * 2) = i by omega]
      rw [← hc, Array.getElem?_toList]

attribute [local go_sem] lrun_store_float
theorem win_put {g s x : Nat} {ys : List Nat} {W : World} (hs : 2 ≤ s) (h : W.rowIs g 67 (s * 2) (fun i => if i < (s - 1) * 2 then wcell s ys (i + 2) else wcell s ys i)) :
    Win g s (ys ++ [x]) ((W.setCell ⟨g, (s - 1) * 2, none⟩ (.float .f64 x)).setCell ⟨g, (s - 1) * 2 + 1, none⟩ (.bool true)) := by
  refine ((h.set ((s - 1) * 2) _).set ((s - 1) * 2 + 1) _).congr (fun i hi => ?_)
  by_cases c : i < (s - 1) * 2
  · have a1 : ¬ i = (s - 1) * 2 + 1 := by omega
    have a2 : ¬ i = (s - 1) * 2 := by omega
    rw [if_neg a1, if_neg a2, if_pos c, wcell_snoc c]
  · by_cases a2 : i = (s - 1) * 2
    · subst a2
      rw [if_neg (by omega), if_pos rfl, wcell_even, Lk.slotR_last (by omega)]
    · have a1 : i = (s - 1) * 2 + 1 := by omega
      subst a1
      rw [if_pos rfl, wcell_odd, Lk.slotS_last (by omega)]

set_option maxHeartbeats 1000000 in
theorem see_any (g s x : Nat) (ys : List Nat) (W : World) (h : Win g s ys W) (hs : 2 ≤ s) (hs2 : s ≤ 400) :
    Calls Try.prog 44 #[.slice (some ⟨g, 0, none⟩) s s, .float .f64 x] W fun e w' => e = .returned (.tuple #[]) ∧ Win g s (ys ++ [x]) w' ∧ Chg g W w' := by
  obtain ⟨W', hcp, hrow, hchg⟩ := win_copy h 3
  have hs1 : (1 : Int) ≤ (s : Int) := by omega
  have c1 := hrow.cell (i := (s - 1) * 2) (by omega)
  have c2 := hrow.cell (i := (s - 1) * 2 + 1) (by omega)
  have f1 := hrow.frozen ((s - 1) * 2)
  have f2 := hrow.frozen ((s - 1) * 2 + 1)
  rw [if_neg (by omega)] at c1 c2
  have HR := Lib.hid hrow
  have HC := Lib.hid hchg
  clear hrow hchg h
  go_enter Try.func44, Try.ntmps44
  go_wp2
  exact bodyPost_end (v := .tuple #[]) (by simp [results, Try.results44, go_sem]) rfl ⟨rfl, win_put hs HR.out, (HC.out.set _ _).set _ _⟩

theorem zero_sg : ∀ w, (zeroValue 67).run Try.prog w = .ok (.agg #[.float .f64 0, .bool false]) w := by
  intro w
  have h : (Try.prog.info? 67).map (·.zero) = some (some (.agg #[.float .f64 0, .bool false])) := by kernel_rfl
  cases hq : Try.prog.info? 67 with
  | none => simp [hq] at h
  | some i =>
    have hi : i.zero = some (.agg #[.float .f64 0, .bool false]) := by simpa [hq] using h
    simp [zeroValue, typeInfo, hq, hi]
theorem win_clear {g s : Nat} {ys : List Nat} {W : World} (h : Win g s ys W) (hs : 1 ≤ s) (ty : TypeId) :
    ∃ W', (Builtin.clear_ #[60] ty #[.slice (some ⟨g, 0, none⟩) s s]).run Try.prog W = .ok (.tuple #[]) W' ∧ Win g s [] W' ∧ Chg g W W' := by
  obtain ⟨cur, hg, hsz, hcur⟩ := h
  have hzc : (Builtin.zeroCells #[.float .f64 0, .bool false] s).toList = (List.range (s * 2)).map (wcell s []) := by
    apply List.ext_getElem
    · simp [Builtin.zeroCells]
    · intro i h1 h2
      have hi : i < s * 2 := by simpa using h2
      have e : wcell s [] i = if i % 2 = 0 then .float .f64 0 else .bool false := by
        unfold wcell; rw [Lk.slotR_nil (by omega), Lk.slotS_nil (by omega)]
      simp only [Builtin.zeroCells, Array.getElem_toList, Array.getElem_map, Array.getElem_range, List.getElem_map, List.getElem_range, e]
      have h5 : i % 2 = 0 ∨ i % 2 = 1 := by omega
      rcases h5 with k | k <;> simp [k]
  have hst := run_storeCells_at Try.prog g 0 67 ((List.range (s * 2)).map (wcell s [])) 0 cur W hg (by simp [hsz]) (by
    intro v hv
    obtain ⟨j, _, rfl⟩ := List.mem_map.1 hv
    exact wcell_one _ _ _)
  obtain ⟨m, rfl⟩ : ∃ m, s = m + 1 := ⟨s - 1, by omega⟩
  simp only [Nat.add_zero, List.take_zero, List.nil_append] at hst
  refine ⟨_, ?_, ?_, chg_setRow _ _ ((List.range ((m + 1) * 2)).map (wcell (m + 1) []) ++ List.drop (0 + ((List.range ((m + 1) * 2)).map (wcell (m + 1) [])).length) cur.toList).toArray⟩
  · simp [Builtin.clear_, run_underlying Try.underlying60, zero_sg W, Value.cells, hzc, hst]
  · refine setRow_is hg _ ?_ ?_
    · simp [hsz]
    · intro i hi
      rw [List.getElem?_append_left (by simpa using hi)]
      simp [hi]

set_option maxHeartbeats 1000000 in
theorem anew_any (g s : Nat) (ys : List Nat) (W : World) (h : Win g s ys W) (hs : 2 ≤ s) :
    Calls Try.prog 43 #[.slice (some ⟨g, 0, none⟩) s s] W fun e w' => e = .returned (.tuple #[]) ∧ Win g s [] w' ∧ Chg g W w' := by
  obtain ⟨W', hcl, hrow, hchg⟩ := win_clear h (by omega) 0
  have HR := Lib.hid hrow
  have HC := Lib.hid hchg
  clear hrow hchg h
  go_enter Try.func43, Try.ntmps43
  go_wp2
  exact bodyPost_end (v := .tuple #[]) (by simp [results, Try.results43, go_sem]) rfl ⟨rfl, HR.out, HC.out⟩

set_option maxHeartbeats 1000000 in
theorem full_any (g s : Nat) (ys : List Nat) (W : World) (h : Win g s ys W) (hs : 2 ≤ s) :
    Calls Try.prog 45 #[.slice (some ⟨g, 0, none⟩) s s] W fun e w' => e = .returned (.bool (decide (s ≤ ys.length))) ∧ w' = W := by
  have c1 : W.cell? ⟨g, 1, none⟩ = some (.bool (decide (s ≤ ys.length))) := by
    have := h.cell (i := 1) (by omega)
    rw [this]; unfold wcell Lk.slotS; simp
  have hs0 : (0 : Int) < (s : Int) := by omega
  clear h
  go_enter Try.func45, Try.ntmps45
  go_wp2
  go_ret
  exact ⟨rfl, rfl⟩

theorem missing_any (x : Nat) (W : World) :
    Calls Try.prog 42 #[.float .f64 x] W fun e w' => e = .returned (.bool (!(FloatKind.f64.format.order x x == some .eq))) ∧ w' = W := by
  go_enter Try.func42, Try.ntmps42
  go_wp2
  go_ret
  exact ⟨rfl, rfl⟩
end Go.Proofs.Ytlipgnjknfmikaa
