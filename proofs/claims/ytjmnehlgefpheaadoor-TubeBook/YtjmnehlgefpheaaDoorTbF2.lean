/-
  A filling's decay, its list, a list turned round.
-/
import Derived.Test.YtjmnehlgefpheaaDoorTbF1
namespace Go.Proofs.YtjmnehlgefpheaaDoor
open Go.RowKit Go.Deep

namespace Tb
/-- The first so many are decayed. -/
def dcTo (m : Int) (Q : List Pc) (j : Nat) : List Pc := (Q.take j).map (dec m) ++ Q.drop j
theorem dcTo_0 (m : Int) (Q : List Pc) : dcTo m Q 0 = Q := by simp [dcTo]
theorem dcTo_all (m : Int) (Q : List Pc) : dcTo m Q Q.length = Q.map (dec m) := by simp [dcTo]
theorem dcTo_len (m : Int) (Q : List Pc) {j : Nat} (h : j ≤ Q.length) : (dcTo m Q j).length = Q.length := by simp [dcTo]; omega
theorem dcTo_get (m : Int) (Q : List Pc) {j : Nat} (h : j < Q.length) : pg (dcTo m Q j) j = pg Q j := by
  unfold pg dcTo
  rw [List.getD_eq_getElem?_getD, List.getD_eq_getElem?_getD, List.getElem?_append_right (by simp; omega)]
  simp [Nat.min_eq_left (Nat.le_of_lt h)]
theorem dcTo_succ (m : Int) (Q : List Pc) {j : Nat} (h : j < Q.length) : dcTo m Q (j + 1) = (dcTo m Q j).set j (dec m (pg Q j)) := by
  unfold dcTo
  rw [take_pg h, drop_pg h, List.set_append_right _ _ (by simp; omega)]
  simp [Nat.min_eq_left (Nat.le_of_lt h)]
theorem pg_set_same {Q : List Pc} {j : Nat} (h : j < Q.length) (p : Pc) : pg (Q.set j p) j = p := by
  unfold pg; simp [h]
theorem pg_set_other {Q : List Pc} {j i : Nat} (h : i ≠ j) (p : Pc) : pg (Q.set j p) i = pg Q i := by
  unfold pg
  rw [List.getD_eq_getElem?_getD, List.getD_eq_getElem?_getD, List.getElem?_set_ne (Ne.symm h)]
end Tb
theorem Que.setg {B h : Nat} {G : Nat → Nat} {Q : List Tb.Pc} {W : World} (q : Que B h G Q W) {j : Nat} (hj : j < Q.length) (x : Int) : Que B h G (Q.set j ⟨(Tb.pg Q j).w, x, (Tb.pg Q j).b⟩) (W.setCell ⟨G j, 1, none⟩ (.int .i64 x)) := by
  have el : (Q.set j ⟨(Tb.pg Q j).w, x, (Tb.pg Q j).b⟩).length = Q.length := by simp
  obtain ⟨bg, h1, h2⟩ := q.fill
  refine ⟨⟨bg, by rw [el]; exact nrow_set h1 (p := ⟨G j, 1, none⟩) (by show h ≠ G j; exact fun e => q.ne j hj e.symm) _, by rw [el]; exact h2⟩, fun i hi => ?_, by rw [el]; exact q.inj, by rw [el]; exact q.lo, by rw [el]; exact q.ne⟩
  rw [el] at hi ⊢
  by_cases e : i = j
  · subst e
    rw [Tb.pg_set_same hi]
    exact rowN_put (q.node i hi) 1 (.int .i64 x) (by simp)
  · rw [Tb.pg_set_other e]
    exact nrow_set (q.node i hi) (p := ⟨G j, 1, none⟩) (by show G i ≠ G j; exact fun e2 => e (q.inj i j hi hj e2)) _
open Classical in
/-- How far a plug is from the beginning. -/
noncomputable def dist (G : Nat → Nat) (n : Nat) (v : Value) : Nat := if h : ∃ j, j < n ∧ v = .pointer (some ⟨G j, 0, none⟩) then n - Classical.choose h else 0
theorem dist_at {G : Nat → Nat} {n : Nat} (hi : ∀ i j, i < n → j < n → G i = G j → i = j) {j : Nat} (hj : j ≤ n) : dist G n (.pointer (nxA G j n)) = n - j := by
  unfold dist nxA
  by_cases h : j < n
  · rw [if_pos h]
    have hx : ∃ i, i < n ∧ Value.pointer (some ⟨G j, 0, none⟩) = .pointer (some ⟨G i, 0, none⟩) := ⟨j, h, rfl⟩
    rw [dif_pos hx]
    have hc := Classical.choose_spec hx
    have e : G j = G (Classical.choose hx) := by
      have e2 := hc.2
      have e3 := Option.some.inj (Value.pointer.inj e2)
      exact congrArg Addr.block e3
    have := hi j _ h hc.1 e
    omega
  · rw [if_neg h, dif_neg (fun hx => by obtain ⟨i, _, e⟩ := hx; cases e)]
    omega
set_option maxRecDepth 100000 in
set_option maxHeartbeats 4000000 in
theorem fdecay_any (B h : Nat) (G : Nat → Nat) (Q : List Tb.Pc) (m : Int) (w : World) (q : Que B h G Q w) (hQ : ∀ p, p ∈ Q → Tb.Ok p) (h0 : 0 ≤ m) (h1 : m ≤ 1000) :
    Calls Tryd.prog 47 #[.pointer (some ⟨h, 0, none⟩), .int .i64 m] w fun e w' => e = .returned (.tuple #[]) ∧ Que B h G (Q.map (Tb.dec m)) w' ∧ OnlyP (inQ h G Q.length) w w' := by
  obtain ⟨bg, hf, _⟩ := q.fill
  obtain ⟨⟨f0, f1, f2⟩, _⟩ := rowN3 hf
  have HI := Lib.hid q.inj
  have HQ : Hid (Que B h G (Tb.dcTo m Q 0) w) := by show Que _ _ _ _ _; rw [Tb.dcTo_0]; exact q
  have HOK := Lib.hid hQ
  clear q hf hQ
  go_enter Tryd.func47, Tryd.ntmps47
  go_wp2_with fail
  clear f0 f1 f2
  go_loopw [4] (fun av wr => ∃ (j : Nat), j ≤ Q.length ∧ av = .pointer (nxA G j Q.length) ∧ Hid (Que B h G (Tb.dcTo m Q j) wr) ∧ Hid (OnlyP (inQ h G Q.length) w wr)) (fun av _ => dist G Q.length av)
  case atStart => exact ⟨0, Nat.zero_le _, rfl, HQ, OnlyP.refl _ _⟩
  case round =>
    obtain ⟨j, hj, rfl, hq, ho⟩ := hrel
    clear HQ
    by_cases hlt : j < Q.length
    · have hl := Tb.dcTo_len m Q hj
      have hn := hq.out.node j (by omega)
      rw [Tb.dcTo_get m Q hlt, hl] at hn
      obtain ⟨⟨n0, n1, n2, n3⟩, y0, y1, y2, y3⟩ := rowN4 hn
      have hgl : G j < wr.heap.size := hn.lt
      have hok := HOK.out _ (Tb.pg_mem hlt)
      obtain ⟨⟨m0, m1⟩, c0, c1⟩ := Tb.gone_bd hok.2.1 h0 h1
      have HD : Hid (dist G Q.length (.pointer (nxA G (j + 1) Q.length)) < dist G Q.length (.pointer (nxA G j Q.length))) := by
        show _ < _
        rw [dist_at HI.out hj, dist_at HI.out (by omega : j + 1 ≤ Q.length)]
        omega
      have HS : Hid (Que B h G (Tb.dcTo m Q (j + 1)) (wr.setCell ⟨G j, 1, none⟩ (.int .i64 ((Tb.pg Q j).g - Tb.gone m (Tb.pg Q j))))) := by
        show Que _ _ _ _ _
        rw [Tb.dcTo_succ m Q hlt]
        have := hq.out.setg (j := j) (by omega) ((Tb.pg Q j).g - Tb.gone m (Tb.pg Q j))
        rw [Tb.dcTo_get m Q hlt] at this
        exact this
      have e1 : nxA G j Q.length = some ⟨G j, 0, none⟩ := by unfold nxA; rw [if_pos hlt]
      rw [e1] at HD ⊢
      obtain ⟨⟨_, _⟩, ⟨o2, o3⟩, _⟩ := hok
      have q0 : 0 ≤ ((Tb.pg Q j).g * m).tdiv 1000 := c0
      have q1 : ((Tb.pg Q j).g * m).tdiv 1000 ≤ (Tb.pg Q j).g := c1
      have hin : inQ h G Q.length (G j) := Or.inr ⟨j, hlt, rfl⟩
      have HO2 : Hid (OnlyP (inQ h G Q.length) w (wr.setCell ⟨G j, 1, none⟩ (.int .i64 ((Tb.pg Q j).g - Tb.gone m (Tb.pg Q j)))).drew) := (ho.out.set (p := ⟨G j, 1, none⟩) hin _).drew
      clear hn hq ho c0 c1 e1 hin hl
      go_wp2_with fail
      go_region
      go_wp2_with fail
      go_roundw
      case rel => exact ⟨j + 1, by omega, rfl, HS.out.same (fun _ _ _ => rfl), HO2⟩
      case measure => exact HD.out
    · obtain rfl : j = Q.length := by omega
      have e1 : nxA G Q.length Q.length = none := by unfold nxA; rw [if_neg (by omega)]
      rw [e1]
      clear e1
      have HE : Hid (Que B h G (Q.map (Tb.dec m)) wr) := by have := hq.out; rwa [Tb.dcTo_all] at this
      go_wp2_with fail
      exact bodyPost_end (v := .tuple #[]) (by simp [results, Tryd.results47, go_sem]) rfl ⟨rfl, HE.out, ho.out⟩
theorem pinfo : (Tryd.prog.info? 38).map (fun i => (i.zero, i.size, i.bytes)) = some (some (.agg #[.int .i64 0, .int .i64 0, .int .i64 0]), 3, 24) := by kernel_rfl
theorem pmk0 (c : Nat) (hn : c ≤ 1048576) (w : World) : (Instr.makeSlice 23 (.int .i64 0) (.int .i64 (c : Int))).run Tryd.prog w = .ok (.slice (some ⟨w.heap.size, 0, none⟩) 0 c) (w.alloc (.cells (madeCells #[.int .i64 0, .int .i64 0, .int .i64 0] (c * 3)) 38)) := by
  obtain ⟨i0, hi, hz0, hz1, hz2⟩ := info_parts pinfo
  have := run_make (P := Tryd.prog) w 23 38 i0 _ Tryd.underlying23 hi hz0 .i64 .i64 0 c (by omega) (by omega) (by rw [hz2]; omega) (by omega)
  rw [hz1] at this
  simp only [Int.toNat_natCast] at this
  exact this
namespace Tb
/-- Two places of a list are exchanged. -/
def swp (l : List Pc) (i j : Nat) : List Pc := (l.set i (pg l j)).set j (pg l i)
/-- The outer so many pairs are exchanged. -/
def rvTo (l : List Pc) (i : Nat) : List Pc := (List.range l.length).map (fun j => if j < i ∨ l.length ≤ j + i then pg l (l.length - 1 - j) else pg l j)
theorem rvTo_len (l : List Pc) (i : Nat) : (rvTo l i).length = l.length := by simp [rvTo]
theorem rvTo_pg (l : List Pc) (i : Nat) {j : Nat} (h : j < l.length) : pg (rvTo l i) j = if j < i ∨ l.length ≤ j + i then pg l (l.length - 1 - j) else pg l j := by
  unfold rvTo
  rw [pg]
  simp [h]
theorem pg_ext {a b : List Pc} (h : a.length = b.length) (e : ∀ j, j < a.length → pg a j = pg b j) : a = b := by
  apply List.ext_getElem h
  intro i h1 h2
  have := e i h1
  unfold pg at this
  rwa [pg_get h1, pg_get h2] at this
theorem rvTo_0 (l : List Pc) : rvTo l 0 = l := by
  refine pg_ext (rvTo_len l 0) (fun j hj => ?_)
  rw [rvTo_len] at hj
  rw [rvTo_pg l 0 hj, if_neg (by omega)]
theorem pg_rev {l : List Pc} {j : Nat} (h : j < l.length) : pg l.reverse j = pg l (l.length - 1 - j) := by
  unfold pg
  rw [List.getD_eq_getElem?_getD, List.getD_eq_getElem?_getD, List.getElem?_reverse h]
theorem rvTo_all {l : List Pc} {i : Nat} (h : l.length ≤ i + i + 1) : rvTo l i = l.reverse := by
  refine pg_ext (by rw [rvTo_len]; simp) (fun j hj => ?_)
  rw [rvTo_len] at hj
  rw [rvTo_pg l i hj, pg_rev hj]
  by_cases hc : j < i ∨ l.length ≤ j + i
  · rw [if_pos hc]
  · rw [if_neg hc]
    have : l.length - 1 - j = j := by omega
    rw [this]
theorem rvTo_succ {l : List Pc} {i : Nat} (h : i + i + 1 < l.length) : rvTo l (i + 1) = ((rvTo l i).set i (pg l (l.length - 1 - i))).set (l.length - 1 - i) (pg l i) := by
  refine pg_ext (by simp [rvTo_len]) (fun j hj => ?_)
  rw [rvTo_len] at hj
  rw [rvTo_pg l _ hj]
  by_cases e1 : j = l.length - 1 - i
  · subst e1
    rw [pg_set_same (by simp [rvTo_len]; omega), if_pos (by omega)]
    congr 1; omega
  · rw [pg_set_other e1]
    by_cases e2 : j = i
    · subst e2
      rw [pg_set_same (by rw [rvTo_len]; omega), if_pos (by omega)]
    · rw [pg_set_other e2, rvTo_pg l _ hj]
      by_cases hc : j < i ∨ l.length ≤ j + i
      · rw [if_pos hc, if_pos (by omega)]
      · rw [if_neg hc, if_neg (by omega)]
theorem fl_set {l : List Pc} {i : Nat} (h : i < l.length) (p : Pc) (j : Nat) : fl (l.set i p) j = updI (updI (updI (fl l) (i * 3) p.w) (i * 3 + 1) p.g) (i * 3 + 2) p.b j := by
  unfold updI
  by_cases e : j / 3 = i
  · have h3 : j = i * 3 ∨ j = i * 3 + 1 ∨ j = i * 3 + 2 := by omega
    rcases h3 with rfl | rfl | rfl
    · rw [fl0, pg_set_same h]; simp
    · rw [fl1, pg_set_same h]; simp
    · rw [fl2, pg_set_same h]; simp
  · rw [if_neg (by omega), if_neg (by omega), if_neg (by omega)]
    unfold fl
    rw [pg_set_other e]
end Tb
/-- A parcel is written into a list. -/
theorem IsBlk.setP {g : Nat} {l : List Tb.Pc} {w : World} (h : IsBlk 38 g (l.length * 3) (Tb.fl l) w) {i : Nat} (hi : i < l.length) (p : Tb.Pc) : IsBlk 38 g ((l.set i p).length * 3) (Tb.fl (l.set i p)) (((w.setCell ⟨g, i * 3, none⟩ (.int .i64 p.w)).setCell ⟨g, i * 3 + 1, none⟩ (.int .i64 p.g)).setCell ⟨g, i * 3 + 2, none⟩ (.int .i64 p.b)) := by
  rw [List.length_set]
  exact (((h.set (i * 3) p.w).set (i * 3 + 1) p.g).set (i * 3 + 2) p.b).congr (fun j _ => (Tb.fl_set hi p j).symm)
theorem IsBlk.pc {g : Nat} {l : List Tb.Pc} {w : World} (h : IsBlk 38 g (l.length * 3) (Tb.fl l) w) {i : Nat} (hi : i < l.length) : (w.cell? ⟨g, i * 3, none⟩ = some (.int .i64 (Tb.pg l i).w) ∧ w.cell? ⟨g, i * 3 + 1, none⟩ = some (.int .i64 (Tb.pg l i).g) ∧ w.cell? ⟨g, i * 3 + 2, none⟩ = some (.int .i64 (Tb.pg l i).b)) ∧ (w.frozen? ⟨g, i * 3, none⟩ = false ∧ w.frozen? ⟨g, i * 3 + 1, none⟩ = false ∧ w.frozen? ⟨g, i * 3 + 2, none⟩ = false) := by
  obtain ⟨b, e, c⟩ := h.at_.pc hi
  cases e
  exact ⟨c, h.frozen _, h.frozen _, h.frozen _⟩
theorem IsBlk.drew_ {T : TypeId} {g N : Nat} {f : Nat → Int} {w : World} (h : IsBlk T g N f w) : IsBlk T g N f w.drew := h.block rfl
theorem Only.drew_ {g : Nat} {w w' : World} (h : Only g w w') : Only g w w'.drew := ⟨h.os, h.tape, h.output, h.size, h.block⟩
set_option maxRecDepth 100000 in
set_option maxHeartbeats 8000000 in
theorem reverse_any (g cap : Nat) (l : List Tb.Pc) (w : World) (h : IsBlk 38 g (l.length * 3) (Tb.fl l) w) (hl : l.length ≤ 1000) :
    Calls Tryd.prog 54 #[.slice (some ⟨g, 0, none⟩) l.length cap] w fun e w' => e = .returned (.tuple #[]) ∧ IsBlk 38 g (l.length * 3) (Tb.fl l.reverse) w' ∧ Only g w w' := by
  have H : Hid (IsBlk 38 g ((Tb.rvTo l 0).length * 3) (Tb.fl (Tb.rvTo l 0)) w) := by show IsBlk _ _ _ _ _; rw [Tb.rvTo_0]; exact h
  clear h
  go_enter Tryd.func54, Tryd.ntmps54
  go_wp2_with fail
  go_loopw [2, 3] (fun iv jv wr => ∃ (i : Nat), i + i ≤ l.length + 1 ∧ iv = .int .i64 i ∧ jv = .int .i64 ((l.length : Int) - 1 - i) ∧ Hid (IsBlk 38 g ((Tb.rvTo l i).length * 3) (Tb.fl (Tb.rvTo l i)) wr) ∧ Hid (Only g w wr)) (fun iv _ _ => l.length + 1 - (intOf iv).toNat)
  case atStart => exact ⟨0, by omega, rfl, by go_num, H, Only.refl _ _⟩
  case round =>
    obtain ⟨i, hi, rfl, rfl, hK, hO⟩ := hrel
    clear H
    by_cases hlt : i + i + 1 < l.length
    · have hltz : (i : Int) < (l.length : Int) - 1 - i := by omega
      obtain ⟨k, hk⟩ : ∃ k, k = l.length - 1 - i := ⟨_, rfl⟩
      have hkz : (l.length : Int) - 1 - i = (k : Int) := by omega
      have hkl : k < l.length := by omega
      have hil : i < l.length := by omega
      have hik : i < k := by omega
      rw [hkz] at hltz ⊢
      obtain ⟨⟨a0, a1, a2⟩, z0, z1, z2⟩ := hK.out.pc (i := i) (by rw [Tb.rvTo_len]; exact hil)
      obtain ⟨⟨b0, b1, b2⟩, y0, y1, y2⟩ := hK.out.pc (i := k) (by rw [Tb.rvTo_len]; exact hkl)
      rw [Tb.rvTo_pg l i hil, if_neg (by omega)] at a0 a1 a2
      rw [Tb.rvTo_pg l i hkl, if_neg (by omega)] at b0 b1 b2
      have hgl : g < wr.heap.size := hK.out.lt
      have hilz : (i : Int) < (l.length : Int) := by omega
      have hklz : (k : Int) < (l.length : Int) := by omega
      have HKE := Lib.hid hk
      have HKZ := Lib.hid hkz
      clear hk hkz
      have HK2 : Hid (IsBlk 38 g ((Tb.rvTo l (i + 1)).length * 3) (Tb.fl (Tb.rvTo l (i + 1))) (((((((wr.setCell ⟨g, i * 3, none⟩ (.int .i64 (Tb.pg l k).w)).setCell ⟨g, i * 3 + 1, none⟩ (.int .i64 (Tb.pg l k).g)).setCell ⟨g, i * 3 + 2, none⟩ (.int .i64 (Tb.pg l k).b)).setCell ⟨g, k * 3, none⟩ (.int .i64 (Tb.pg l i).w)).setCell ⟨g, k * 3 + 1, none⟩ (.int .i64 (Tb.pg l i).g)).setCell ⟨g, k * 3 + 2, none⟩ (.int .i64 (Tb.pg l i).b)).drew)) := by
        show IsBlk _ _ _ _ _
        rw [Tb.rvTo_succ hlt, ← HKE.out]
        exact ((hK.out.setP (i := i) (by rw [Tb.rvTo_len]; exact hil) (Tb.pg l k)).setP (i := k) (by rw [List.length_set, Tb.rvTo_len]; exact hkl) (Tb.pg l i)).drew_
      have HO2 : Hid (Only g w (((((((wr.setCell ⟨g, i * 3, none⟩ (.int .i64 (Tb.pg l k).w)).setCell ⟨g, i * 3 + 1, none⟩ (.int .i64 (Tb.pg l k).g)).setCell ⟨g, i * 3 + 2, none⟩ (.int .i64 (Tb.pg l k).b)).setCell ⟨g, k * 3, none⟩ (.int .i64 (Tb.pg l i).w)).setCell ⟨g, k * 3 + 1, none⟩ (.int .i64 (Tb.pg l i).g)).setCell ⟨g, k * 3 + 2, none⟩ (.int .i64 (Tb.pg l i).b)).drew)) := by
        exact ((((((hO.out.set (i * 3) (.int .i64 (Tb.pg l k).w)).set (i * 3 + 1) (.int .i64 (Tb.pg l k).g)).set (i * 3 + 2) (.int .i64 (Tb.pg l k).b)).set (k * 3) (.int .i64 (Tb.pg l i).w)).set (k * 3 + 1) (.int .i64 (Tb.pg l i).g)).set (k * 3 + 2) (.int .i64 (Tb.pg l i).b)).drew_
      clear hK hO
      go_wp2_with fail
      go_region
      go_wp2_with fail
      go_roundw
      case rel => exact ⟨i + 1, by omega, by go_num, by have := HKE.out; go_num, HK2, HO2⟩
      case measure => simp [intOf]; omega
    · have hltz : ¬ (i : Int) < (l.length : Int) - 1 - i := by omega
      have HE : Hid (IsBlk 38 g (l.length * 3) (Tb.fl l.reverse) wr) := by
        have := hK.out
        rwa [Tb.rvTo_len, Tb.rvTo_all (by omega)] at this
      go_wp2_with fail
      exact bodyPost_end (v := .tuple #[]) (by simp [results, Tryd.results54, go_sem]) rfl ⟨rfl, HE.out, hO.out⟩
end Go.Proofs.YtjmnehlgefpheaaDoor
