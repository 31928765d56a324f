/-
  Which places are left and which are taken: the program's; small functions of both.
-/
import Derived.Test.YtbkpedcabbppbaaDoorRnOw
import Derived.Test.YtbkpedcabbppbaaDoorRnI1
import Derived.Test.YtbkpedcabbppbaaDoorRnYr
import Derived.Deep.AppendLies
namespace Go.Proofs.YtbkpedcabbppbaaDoor
open Go.RowKit Go.Deep

set_option maxRecDepth 100000 in
set_option maxHeartbeats 1000000 in
theorem pidx_any (a : Option Addr) (n cap : Nat) (f : Nat → Int) (x : Int) (w : World) (h : IsAt a n f w) (hn : n ≤ 1048576) :
    Calls Tryd.prog 76 #[.slice a n cap, .int .i64 x] w fun e w' => (∃ z : Int, e = .returned (.int .i64 z) ∧ (0 ≤ z ↔ Pl.Has n f x)) ∧ w' = w := by
  have H := Lib.hid h
  clear h
  go_enter Tryd.func76, Tryd.ntmps76
  go_wp2_with fail
  go_loopw [5, 8] (fun _ iv wr => ∃ (i : Nat), i ≤ n ∧ iv = .int .i64 i ∧ wr = w ∧ Hid (∀ j, j < i → f j ≠ x)) (fun _ iv _ => n - (intOf iv).toNat)
  case atStart => exact ⟨0, Nat.zero_le _, rfl, rfl, fun j hj => absurd hj (Nat.not_lt_zero _)⟩
  case round =>
    obtain ⟨i, hi, rfl, rfl, hP⟩ := hrel
    by_cases hlt : i < n
    · have hltz : (i : Int) < (n : Int) := by omega
      obtain ⟨b, e, c0⟩ := H.out.at1 hlt
      subst e
      by_cases c : f i = x
      · have HC : Hid (Pl.Has n f x) := ⟨i, hlt, c⟩
        have c' : (x == f i) = true := by simp [c]
        clear c
        go_wp2_with fail
        go_ret
        exact ⟨⟨_, rfl, ⟨fun _ => HC.out, fun _ => by omega⟩⟩, rfl⟩
      · have HC := Lib.hid c
        have c' : (x == f i) = false := by simp; exact fun q => c q.symm
        clear c
        go_wp2_with fail
        go_roundw
        case rel => exact ⟨i + 1, by omega, by go_num, by trivial, fun j hj => by
          by_cases e : j = i
          · subst e; exact HC.out
          · exact hP.out j (by omega)⟩
        case measure => simp [intOf]; omega
    · obtain rfl : i = n := by omega
      go_wp2_with fail
      go_ret
      exact ⟨⟨_, rfl, ⟨fun x => absurd x (by omega), fun ⟨j, hj, e⟩ => absurd e (hP.out j hj)⟩⟩, rfl⟩
set_option maxRecDepth 100000 in
set_option maxHeartbeats 1000000 in
theorem pcont_any (a : Option Addr) (n cap : Nat) (f : Nat → Int) (x : Int) (w : World) (h : IsAt a n f w) (hn : n ≤ 1048576) :
    Calls Tryd.prog 70 #[.slice a n cap, .int .i64 x] w fun e w' => e = .returned (.bool (dB (Pl.Has n f x))) ∧ w' = w := by
  have H := Lib.hid h
  clear h
  go_enter Tryd.func70, Tryd.ntmps70
  go_wp2_with fail
  refine (pidx_any a n cap f x _ H.out hn).mono ?_
  rintro e w1 ⟨⟨z, rfl, hz⟩, rfl⟩
  have HZ := Lib.hid hz
  clear hz
  by_cases c : 0 ≤ z
  · have HE := Lib.hid (dB_tt (HZ.out.1 c))
    go_wp2_with fail
    go_ret
    exact ⟨by rw [HE.out]; simp <;> omega, rfl⟩
  · have HE := Lib.hid (dB_ff (fun x => c (HZ.out.2 x)))
    go_wp2_with fail
    go_ret
    exact ⟨by rw [HE.out]; simp <;> omega, rfl⟩
set_option maxRecDepth 100000 in
set_option maxHeartbeats 1000000 in
theorem shas_any (a : Option Addr) (n cap : Nat) (f : Nat → Int) (x : Int) (w : World) (h : IsAt a n f w) (hn : n ≤ 1048576) :
    Calls Tryd.prog 53 #[.slice a n cap, .int .i64 x] w fun e w' => e = .returned (.bool (dB (Pl.Has n f x))) ∧ w' = w := by
  have H := Lib.hid h
  clear h
  go_enter Tryd.func53, Tryd.ntmps53
  go_wp2_with fail
  go_loopw [5] (fun iv wr => ∃ (i : Nat), i ≤ n ∧ iv = .int .i64 i ∧ wr = w ∧ Hid (∀ j, j < i → f j ≠ x)) (fun iv _ => n - (intOf iv).toNat)
  case atStart => exact ⟨0, Nat.zero_le _, rfl, rfl, fun j hj => absurd hj (Nat.not_lt_zero _)⟩
  case round =>
    obtain ⟨i, hi, rfl, rfl, hP⟩ := hrel
    by_cases hlt : i < n
    · have hltz : (i : Int) < (n : Int) := by omega
      obtain ⟨b, e, c0⟩ := H.out.at1 hlt
      subst e
      by_cases c : f i = x
      · have HC : Hid (dB (Pl.Has n f x) = true) := dB_tt ⟨i, hlt, c⟩
        have c' : (f i == x) = true := by simp [c]
        clear c
        go_wp2_with fail
        go_ret
        exact ⟨by rw [HC.out]; rfl, rfl⟩
      · have HC := Lib.hid c
        have c' : (f i == x) = false := by simp [c]
        clear c
        go_wp2_with fail
        go_roundw
        case rel => exact ⟨i + 1, by omega, by go_num, by trivial, fun j hj => by
          by_cases e : j = i
          · subst e; exact HC.out
          · exact hP.out j (by omega)⟩
        case measure => simp [intOf]; omega
    · obtain rfl : i = n := by omega
      have HC : Hid (dB (Pl.Has i f x) = false) := dB_ff (fun ⟨j, hj, e⟩ => hP.out j hj e)
      go_wp2_with fail
      go_ret
      exact ⟨by rw [HC.out]; rfl, rfl⟩
namespace Rn
/-- The positions at no pick. -/
def qsTo (P : List Nat) (i : Nat) : List Nat := (List.range i).filter (fun j => !P.contains j)
theorem qs_yes {P : List Nat} {i : Nat} (h : P.contains i = true) : qsTo P (i + 1) = qsTo P i := by unfold qsTo; rw [List.range_succ, List.filter_append]; simp only [List.filter_cons, h, List.filter_nil]; simp
theorem qs_no {P : List Nat} {i : Nat} (h : P.contains i = false) : qsTo P (i + 1) = qsTo P i ++ [i] := by unfold qsTo; rw [List.range_succ, List.filter_append]; simp only [List.filter_cons, h, List.filter_nil]; simp
theorem qs_len (P : List Nat) (i : Nat) : (qsTo P i).length ≤ i := Nat.le_trans (List.length_filter_le _ _) (by simp)
theorem qs_unt (L P : List Nat) : unt L P = (qsTo P L.length).map (fun j => L.getD j 0) := rfl
theorem has_iff {P : List Nat} {i : Nat} : Pl.Has P.length (nf P) (i : Int) ↔ P.contains i = true := by
  rw [List.contains_iff_mem]
  constructor
  · rintro ⟨j, hj, e⟩
    unfold nf at e
    have : P.getD j 0 = i := by omega
    rw [← this]
    exact getD_mem hj
  · intro h
    obtain ⟨j, hj, e⟩ := List.getElem_of_mem h
    refine ⟨j, hj, ?_⟩
    unfold nf
    rw [List.getD_eq_getElem?_getD, List.getElem?_eq_getElem hj]
    simp [e]
theorem has_not {P : List Nat} {i : Nat} (h : P.contains i = false) : ¬ Pl.Has P.length (nf P) (i : Int) := fun q => by rw [has_iff.1 q] at h; cases h
/-- The cells of numbers at positions, and of assets. -/
def inVs (F : Nat → Int) (l : List Nat) : List Value := l.map (fun q => Value.int .i64 (F q))
theorem inVs_app (F : Nat → Int) (l : List Nat) (x : Nat) : inVs F (l ++ [x]) = inVs F l ++ [.int .i64 (F x)] := by simp [inVs]
def asVs (F : Nat → Int) (l : List Nat) : List Value := l.flatMap (fun q => [Value.int .i64 (F (q * 2)), Value.int .i64 (F (q * 2 + 1))])
theorem asVs_app (F : Nat → Int) (l : List Nat) (x : Nat) : asVs F (l ++ [x]) = asVs F l ++ [.int .i64 (F (x * 2)), .int .i64 (F (x * 2 + 1))] := by simp [asVs]
theorem asVs_at (F : Nat → Int) : ∀ (l : List Nat) (j : Nat), j < l.length * 2 → (asVs F l)[j]? = some (.int .i64 (sub F l j)) := by
  intro l
  induction l with
  | nil => intro j hj; simp at hj
  | cons x l ih =>
    intro j hj
    have e : asVs F (x :: l) = Value.int .i64 (F (x * 2)) :: Value.int .i64 (F (x * 2 + 1)) :: asVs F l := by simp [asVs]
    rw [e]
    match j, hj with
    | 0, _ => simp [sub]
    | 1, _ => simp [sub]
    | j + 2, hj =>
      have := ih j (by simp at hj; omega)
      simp only [List.getElem?_cons_succ]
      rw [this]
      unfold sub
      rw [show (j + 2) / 2 = j / 2 + 1 by omega, show (j + 2) % 2 = j % 2 by omega]
      simp
end Rn
theorem rinfo_y : (Tryd.prog.info? 2).map (fun i => (i.zero, i.size, i.bytes)) = some (some (.int .i64 0), 1, 8) := by kernel_rfl
set_option maxRecDepth 100000 in
set_option maxHeartbeats 2000000 in
theorem taken_any (a : Option Addr) (cap : Nat) (L : List Nat) (pa : Option Addr) (pc : Nat) (P : List Nat) (w : World) (h : IsAt a L.length (Rn.nf L) w) (hp : IsAt pa P.length (Rn.nf P) w) (hPL : ∀ x, x ∈ P → x < L.length) (_hl : L.length ≤ 1000) (hpl : P.length ≤ 1000) :
    Calls Tryd.prog 57 #[.slice a L.length cap, .slice pa P.length pc] w fun e w' => (∃ v, e = .returned v ∧ w'.ownsRow w.heap.size 2 1 v (Rn.tkn L P).length (rnVs (Rn.tkn L P))) ∧ Below w.heap.size w w' := by
  obtain ⟨i1, hi1, hy0, hy1, hy2⟩ := info_parts rinfo_y
  have H := Lib.hid h
  have HP := Lib.hid hp
  have HPL := Lib.hid hPL
  clear h hp hPL
  go_enter Tryd.func57, Tryd.ntmps57
  go_wp2_with fail
  go_loopw [5, 7, 10] (fun ov _ iv wr => ∃ (i : Nat), i ≤ P.length ∧ iv = .int .i64 i ∧ Hid (wr.ownsRow w.heap.size 2 1 ov (Rn.tkn L (P.take i)).length (rnVs (Rn.tkn L (P.take i)))) ∧ Hid (Below w.heap.size w wr)) (fun _ _ iv _ => P.length - (intOf iv).toNat)
  case atStart => exact ⟨0, Nat.zero_le _, rfl, by rw [List.take_zero]; exact World.ownsRow_nil _ _ _ _, Below.refl _ _⟩
  case round =>
    obtain ⟨i, hi, rfl, hO, hB⟩ := hrel
    obtain ⟨av, cv, rfl⟩ := rown_shape hO.out
    by_cases hlt : i < P.length
    case neg =>
      obtain rfl : i = P.length := by omega
      have HO2 := Lib.hid hO.out
      rw [List.take_length] at HO2
      have e : (Rn.tkn L (P.take P.length)).length = (Rn.tkn L P).length := by rw [List.take_length]
      rw [e]
      clear hO e
      go_wp2_with fail
      go_ret
      exact ⟨⟨_, rfl, HO2.out⟩, hB.out⟩
    have hltz : (i : Int) < (P.length : Int) := by omega
    obtain ⟨pb, e, c0⟩ := (HP.out.below hB.out).at1 hlt
    subst e
    obtain ⟨q, hq⟩ : ∃ q, q = P.getD i 0 := ⟨_, rfl⟩
    have hqL : q < L.length := by rw [hq]; exact HPL.out _ (Rn.getD_mem hlt)
    have hqz : (q : Int) < (L.length : Int) := by omega
    obtain ⟨lb, e, c1⟩ := (H.out.below hB.out).at1 hqL
    subst e
    rw [show Rn.nf P i = (q : Int) by rw [hq]; rfl] at c0
    obtain ⟨x, hx⟩ : ∃ x, x = L.getD q 0 := ⟨_, rfl⟩
    rw [show Rn.nf L q = (x : Int) by rw [hx]; rfl] at c1
    have HA : Hid (Rn.tkn L (P.take (i + 1)) = Rn.tkn L (P.take i) ++ [x]) := by
      show Rn.tkn _ _ = _
      rw [List.take_succ_eq_append_getElem hlt]
      unfold Rn.tkn
      rw [List.map_append, hx, hq, List.getD_eq_getElem?_getD (l := P), List.getElem?_eq_getElem hlt]
      rfl
    have hlen : (Rn.tkn L (P.take i)).length ≤ 1000 := by unfold Rn.tkn; rw [List.length_map, List.length_take]; omega
    have hsz := hB.out.size
    clear hq hx
    go_wp2_with (at_builtin; refine wpList_append_lies _ rfl _ _ 24 rfl (w.heap.size) 2 i1 (.int .i64 0) 1 8 Tryd.underlying24 hi1 hy0 hy1 hy2 rfl (by decide) _ _ _ rfl (hO.out.alloc _) ⟨wr.heap.size, 0, none⟩ 1 1 [.int .i64 (x : Int)] rfl rfl ?a1 ?a2 ?a3 ?a4 ?a5 ?a6 (wr.heap.size + 1) ?a7 ?_)
    try (case a1 => (intro j u hj; match j, hj with
      | 0, hj => (simp at hj; subst hj; simp [Addr.add])))
    try (case a2 => first | rfl | (intro u hu; simp at hu; subst hu; rfl))
    try (case a3 => omega)
    try (case a4 => (unfold maxLen; omega))
    try (case a5 => omega)
    try (case a6 => first | omega | (simp; omega))
    try (case a7 => simp)
    intro g cap_ W3 hown hgrow hat hlt3
    have HO3 : Hid (W3.ownsRow w.heap.size 2 1 (.slice (some ⟨g, 0, none⟩) ((Rn.tkn L (P.take i)).length + 1) cap_) (Rn.tkn L (P.take (i + 1))).length (rnVs (Rn.tkn L (P.take (i + 1))))) := by
      show World.ownsRow _ _ _ _ _ _ _
      rw [HA.out, rnVs_app]
      simpa using hown
    have HB3 : Hid (Below w.heap.size w W3) := (hB.out.alloc hB.out.size _).grown hgrow (by simp; omega) (fun k hk => (hO.out.lt k hk).1)
    clear hown hgrow hat hlt3 hO hB HA c0 c1
    go_wp2_with fail
    go_roundw
    case rel => exact ⟨i + 1, by omega, by go_num, HO3, HB3⟩
    case measure => simp [intOf]; omega
set_option maxRecDepth 100000 in
set_option maxHeartbeats 2000000 in
theorem untakenI_any (a : Option Addr) (n cap : Nat) (F : Nat → Int) (pa : Option Addr) (pc : Nat) (P : List Nat) (w : World) (h : IsAt a n F w) (hp : IsAt pa P.length (Rn.nf P) w) (hl : n ≤ 1000) (hpl : P.length ≤ 1000) :
    Calls Tryd.prog 59 #[.slice a n cap, .slice pa P.length pc] w fun e w' => (∃ v, e = .returned v ∧ w'.ownsRow w.heap.size 2 1 v (Rn.qsTo P n).length (Rn.inVs F (Rn.qsTo P n))) ∧ Below w.heap.size w w' := by
  obtain ⟨i1, hi1, hy0, hy1, hy2⟩ := info_parts rinfo_y
  have H := Lib.hid h
  have HP := Lib.hid hp
  clear h hp
  go_enter Tryd.func59, Tryd.ntmps59
  go_wp2_with fail
  go_loopw [5, 6, 7, 10] (fun ov _ _ iv wr => ∃ (i : Nat), i ≤ n ∧ iv = .int .i64 i ∧ Hid (wr.ownsRow w.heap.size 2 1 ov (Rn.qsTo P i).length (Rn.inVs F (Rn.qsTo P i))) ∧ Hid (Below w.heap.size w wr)) (fun _ _ _ iv _ => n - (intOf iv).toNat)
  case atStart => exact ⟨0, Nat.zero_le _, rfl, World.ownsRow_nil _ _ _ _, Below.refl _ _⟩
  case round =>
    obtain ⟨i, hi, rfl, hO, hB⟩ := hrel
    obtain ⟨av, cv, rfl⟩ := rown_shape hO.out
    by_cases hlt : i < n
    case neg =>
      obtain rfl : i = n := by omega
      go_wp2_with fail
      go_ret
      exact ⟨⟨_, rfl, hO.out⟩, hB.out⟩
    have hltz : (i : Int) < (n : Int) := by omega
    obtain ⟨lb, e, c1⟩ := (H.out.below hB.out).at1 hlt
    subst e
    have hlen := Rn.qs_len P i
    have hsz := hB.out.size
    go_wp2_with fail
    refine (pcont_any pa P.length pc (Rn.nf P) i _ (HP.out.below hB.out) (by omega)).mono ?_
    rintro e w1 ⟨rfl, hw⟩
    subst w1
    cases hc : P.contains i with
    | true =>
      rw [dB_tt (Rn.has_iff.2 hc)]
      have HA := Lib.hid (Rn.qs_yes hc)
      clear hc c1
      go_wp2_with fail
      go_roundw
      case rel => exact ⟨i + 1, by omega, by go_num, by rw [HA.out]; exact hO.out, hB⟩
      case measure => simp [intOf]; omega
    | false =>
      rw [dB_ff (Rn.has_not hc)]
      have HA := Lib.hid (Rn.qs_no hc)
      clear hc c1
      go_wp2_with (at_builtin; refine wpList_append_lies _ rfl _ _ 24 rfl (w.heap.size) 2 i1 (.int .i64 0) 1 8 Tryd.underlying24 hi1 hy0 hy1 hy2 rfl (by decide) _ _ _ rfl (hO.out.alloc _) ⟨wr.heap.size, 0, none⟩ 1 1 [.int .i64 (F i)] rfl rfl ?a1 ?a2 ?a3 ?a4 ?a5 ?a6 (wr.heap.size + 1) ?a7 ?_)
      try (case a1 => (intro j u hj; match j, hj with
        | 0, hj => (simp at hj; subst hj; simp [Addr.add])))
      try (case a2 => first | rfl | (intro u hu; simp at hu; subst hu; rfl))
      try (case a3 => omega)
      try (case a4 => (unfold maxLen; omega))
      try (case a5 => omega)
      try (case a6 => first | omega | (simp; omega))
      try (case a7 => simp)
      intro g cap_ W3 hown hgrow hat hlt3
      have HO3 : Hid (W3.ownsRow w.heap.size 2 1 (.slice (some ⟨g, 0, none⟩) ((Rn.qsTo P i).length + 1) cap_) (Rn.qsTo P (i + 1)).length (Rn.inVs F (Rn.qsTo P (i + 1)))) := by
        show World.ownsRow _ _ _ _ _ _ _
        rw [HA.out, Rn.inVs_app]
        simpa using hown
      have HB3 : Hid (Below w.heap.size w W3) := (hB.out.alloc hB.out.size _).grown hgrow (by simp; omega) (fun k hk => (hO.out.lt k hk).1)
      clear hown hgrow hat hlt3 hO hB HA
      go_wp2_with fail
      go_roundw
      case rel => exact ⟨i + 1, by omega, by go_num, HO3, HB3⟩
      case measure => simp [intOf]; omega
theorem rinfo_as : (Tryd.prog.info? 53).map (fun i => (i.zero, i.size, i.bytes)) = some (some (.agg #[.int .i64 0, .int .i64 0]), 2, 16) := by kernel_rfl
set_option maxRecDepth 100000 in
set_option maxHeartbeats 2000000 in
theorem untakenA_any (a : Option Addr) (n cap : Nat) (F : Nat → Int) (pa : Option Addr) (pc : Nat) (P : List Nat) (w : World) (h : IsAt a (n * 2) F w) (hp : IsAt pa P.length (Rn.nf P) w) (hl : n ≤ 1000) (hpl : P.length ≤ 1000) :
    Calls Tryd.prog 58 #[.slice a n cap, .slice pa P.length pc] w fun e w' => (∃ v, e = .returned v ∧ w'.ownsRow w.heap.size 53 2 v (Rn.qsTo P n).length (Rn.asVs F (Rn.qsTo P n))) ∧ Below w.heap.size w w' := by
  obtain ⟨i1, hi1, hy0, hy1, hy2⟩ := info_parts rinfo_as
  have H := Lib.hid h
  have HP := Lib.hid hp
  clear h hp
  go_enter Tryd.func58, Tryd.ntmps58
  go_wp2_with fail
  go_loopw [5, 6, 7, 10] (fun ov _ _ iv wr => ∃ (i : Nat), i ≤ n ∧ iv = .int .i64 i ∧ Hid (wr.ownsRow w.heap.size 53 2 ov (Rn.qsTo P i).length (Rn.asVs F (Rn.qsTo P i))) ∧ Hid (Below w.heap.size w wr)) (fun _ _ _ iv _ => n - (intOf iv).toNat)
  case atStart => exact ⟨0, Nat.zero_le _, rfl, World.ownsRow_nil _ _ _ _, Below.refl _ _⟩
  case round =>
    obtain ⟨i, hi, rfl, hO, hB⟩ := hrel
    obtain ⟨av, cv, rfl⟩ := rown_shape hO.out
    by_cases hlt : i < n
    case neg =>
      obtain rfl : i = n := by omega
      go_wp2_with fail
      go_ret
      exact ⟨⟨_, rfl, hO.out⟩, hB.out⟩
    have hltz : (i : Int) < (n : Int) := by omega
    obtain ⟨lb, e, c0, c1⟩ := (H.out.below hB.out).at2 hlt
    subst e
    have hlen := Rn.qs_len P i
    have hsz := hB.out.size
    obtain ⟨X, hX⟩ : ∃ X, X = wr.alloc (.cells #[.int .i64 (F (i * 2)), .int .i64 (F (i * 2 + 1))] 53) := ⟨_, rfl⟩
    have HXB : Hid (Below wr.heap.size wr X) := by show Below _ _ _; rw [hX]; exact nbel_alloc _ _
    have HXR : Hid (X.rowIs wr.heap.size 53 2 (rowN [.int .i64 (F (i * 2)), .int .i64 (F (i * 2 + 1))])) := by show X.rowIs _ _ _ _; rw [hX]; exact rowN_alloc wr _ _
    have HX := Lib.hid hX
    clear hX
    go_wp2_with fail
    rw [← HX.out]
    clear HX c0 c1
    have HBX : Hid (Below w.heap.size w X) := hB.out.trans (HXB.out.mono hB.out.size)
    have HO2 := Lib.hid (rown_below hO.out HXB.out)
    refine (pcont_any pa P.length pc (Rn.nf P) i _ (HP.out.below HBX.out) (by omega)).mono ?_
    rintro e w1 ⟨rfl, hw⟩
    subst w1
    have hsX := HBX.out.size
    cases hc : P.contains i with
    | true =>
      rw [dB_tt (Rn.has_iff.2 hc)]
      have HA := Lib.hid (Rn.qs_yes hc)
      clear hc hO hB
      go_wp2_with fail
      go_roundw
      case rel => exact ⟨i + 1, by omega, by go_num, by rw [HA.out]; exact HO2.out, HBX⟩
      case measure => simp [intOf]; omega
    | false =>
      rw [dB_ff (Rn.has_not hc)]
      have HA := Lib.hid (Rn.qs_no hc)
      clear hc hO hB
      obtain ⟨⟨x0, x1⟩, _⟩ := rowN2 HXR.out
      have hxl := HXR.out.lt
      go_wp2_with (at_builtin; refine wpList_append_lies _ rfl _ _ 28 rfl (w.heap.size) 53 i1 (.agg #[.int .i64 0, .int .i64 0]) 2 16 Tryd.underlying28 hi1 hy0 hy1 hy2 rfl (by decide) _ _ _ rfl (HO2.out.alloc _) ⟨X.heap.size, 0, none⟩ 1 1 [.int .i64 (F (i * 2)), .int .i64 (F (i * 2 + 1))] rfl rfl ?a1 ?a2 ?a3 ?a4 ?a5 ?a6 (X.heap.size + 1) ?a7 ?_)
      try (case a1 => (intro j u hj; match j, hj with
        | 0, hj => (simp at hj; subst hj; simp [Addr.add])
        | 1, hj => (simp at hj; subst hj; simp [Addr.add])))
      try (case a2 => first | rfl | (intro u hu; simp at hu; rcases hu with rfl | rfl <;> rfl))
      try (case a3 => omega)
      try (case a4 => (unfold maxLen; omega))
      try (case a5 => omega)
      try (case a6 => first | omega | (simp; omega))
      try (case a7 => simp)
      intro g cap_ W3 hown hgrow hat hlt3
      have HO3 : Hid (W3.ownsRow w.heap.size 53 2 (.slice (some ⟨g, 0, none⟩) ((Rn.qsTo P i).length + 1) cap_) (Rn.qsTo P (i + 1)).length (Rn.asVs F (Rn.qsTo P (i + 1)))) := by
        show World.ownsRow _ _ _ _ _ _ _
        rw [HA.out, Rn.asVs_app]
        simpa using hown
      have HB3 : Hid (Below w.heap.size w W3) := (HBX.out.alloc HBX.out.size _).grown hgrow (by simp; omega) (fun k hk => (HO2.out.lt k hk).1)
      clear hown hgrow hat hlt3 HO2 HBX HA x0 x1
      go_wp2_with fail
      go_roundw
      case rel => exact ⟨i + 1, by omega, by go_num, HO3, HB3⟩
      case measure => simp [intOf]; omega
/-- Budgets that are right. -/
def Rn.BudsOk (m : Nat) (b : Nat → Int) : Prop := ∀ i, i < m → Rn.BudOk (b i)
set_option maxRecDepth 100000 in
set_option maxHeartbeats 2000000 in
theorem rallw_any (a : Option Addr) (n cap : Nat) (f : Nat → Int) (w : World) (h : IsAt a n f w) (hn : n ≤ 1048576) :
    Calls Tryd.prog 55 #[.slice a n cap, .int .i64 300] w fun e w' => e = .returned (.bool (dB (Rn.BudsOk n f))) ∧ w' = w := by
  have H := Lib.hid h
  clear h
  go_enter Tryd.func55, Tryd.ntmps55
  go_wp2_with fail
  go_loopw [5, 8] (fun _ iv wr => ∃ (i : Nat), i ≤ n ∧ iv = .int .i64 i ∧ wr = w ∧ Hid (∀ j, j < i → Rn.BudOk (f j))) (fun _ iv _ => n - (intOf iv).toNat)
  case atStart => exact ⟨0, Nat.zero_le _, rfl, rfl, fun j hj => absurd hj (Nat.not_lt_zero _)⟩
  case round =>
    obtain ⟨i, hi, rfl, rfl, hP⟩ := hrel
    by_cases hlt : i < n
    · have hltz : (i : Int) < (n : Int) := by omega
      obtain ⟨b, e, c0⟩ := H.out.at1 hlt
      subst e
      go_wp2_with fail
      refine (rwithin_any _ _ _).mono ?_
      rintro e w1 ⟨rfl, hw⟩
      subst w1
      by_cases c : 0 ≤ f i ∧ f i ≤ 300
      · rw [decide_eq_true c]
        have HC : Hid (Rn.BudOk (f i)) := c
        clear c
        go_wp2_with fail
        go_roundw
        case rel => exact ⟨i + 1, by omega, by go_num, by trivial, fun j hj => by
          by_cases e : j = i
          · subst e; exact HC.out
          · exact hP.out j (by omega)⟩
        case measure => simp [intOf]; omega
      · rw [decide_eq_false c]
        have HE := Lib.hid (dB_ff (fun x : Rn.BudsOk n f => c (x i hlt)))
        clear c
        go_wp2_with fail
        go_ret
        exact ⟨by rw [HE.out]; rfl, rfl⟩
    · obtain rfl : i = n := by omega
      have HE := Lib.hid (dB_tt (show Rn.BudsOk i f from hP.out))
      go_wp2_with fail
      go_ret
      exact ⟨by rw [HE.out]; rfl, rfl⟩
set_option maxRecDepth 100000 in
set_option maxHeartbeats 2000000 in
theorem rl03_any (a : Option Addr) (n cap : Nat) (f : Nat → Int) (w : World) (h : IsAt a n f w) (hn : n ≤ 1048576) :
    Calls Tryd.prog 52 #[.slice a n cap, .int .i64 0, .int .i64 300] w fun e w' => e = .returned (.bool (dB (Rn.BudsOk n f))) ∧ w' = w := by
  have H := Lib.hid h
  clear h
  go_enter Tryd.func52, Tryd.ntmps52
  go_wp2_with fail
  go_loopw [7] (fun iv wr => ∃ (i : Nat), i ≤ n ∧ iv = .int .i64 i ∧ wr = w ∧ Hid (∀ j, j < i → Rn.BudOk (f j))) (fun iv _ => n - (intOf iv).toNat)
  case atStart => exact ⟨0, Nat.zero_le _, rfl, rfl, fun j hj => absurd hj (Nat.not_lt_zero _)⟩
  case round =>
    obtain ⟨i, hi, rfl, rfl, hP⟩ := hrel
    by_cases hlt : i < n
    · have hltz : (i : Int) < (n : Int) := by omega
      obtain ⟨b, e, c0⟩ := H.out.at1 hlt
      subst e
      by_cases c : 0 ≤ f i ∧ f i ≤ 300
      · have HC : Hid (Rn.BudOk (f i)) := c
        have h1 : ¬ f i < 0 := by omega
        have h2 : ¬ 300 < f i := by omega
        clear c
        go_wp2_with fail
        go_roundw
        case rel => exact ⟨i + 1, by omega, by go_num, by trivial, fun j hj => by
          by_cases e : j = i
          · subst e; exact HC.out
          · exact hP.out j (by omega)⟩
        case measure => simp [intOf]; omega
      · have HE := Lib.hid (dB_ff (fun x : Rn.BudsOk n f => c (x i hlt)))
        have hc : f i < 0 ∨ (¬ f i < 0 ∧ 300 < f i) := by omega
        clear c
        rcases hc with h1 | ⟨h1, h2⟩
        all_goals
          go_wp2_with fail
          go_ret
          exact ⟨by rw [HE.out]; rfl, rfl⟩
    · obtain rfl : i = n := by omega
      have HE := Lib.hid (dB_tt (show Rn.BudsOk i f from hP.out))
      go_wp2_with fail
      go_ret
      exact ⟨by rw [HE.out]; rfl, rfl⟩
end Go.Proofs.YtbkpedcabbppbaaDoor
