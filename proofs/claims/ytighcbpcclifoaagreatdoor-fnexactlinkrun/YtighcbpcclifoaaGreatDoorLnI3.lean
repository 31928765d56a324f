/-
  StationHeard: the program's.
-/
import Derived.Test.YtighcbpcclifoaaGreatDoorLnS2
namespace Go.Proofs.YtighcbpcclifoaaGreatDoor
open Go.RowKit Go.Deep

namespace Ln
theorem left_nil (q : Int) : left q [] = [] := rfl
theorem left_app (q : Int) (l m : List Nt) : left q (l ++ m) = left q l ++ left q m := by simp [left]
theorem left_all {q : Int} {l : List Nt} (h : ∀ i, i < l.length → q < fl l (i * 2)) : left q l = l := by
  unfold left
  rw [List.filter_eq_self]
  intro x hx
  obtain ⟨i, hi, e⟩ := List.mem_iff_getElem.1 hx
  have := h i hi
  rw [fl_even, List.getD_eq_getElem?_getD, List.getElem?_eq_getElem hi] at this
  simp at this
  rw [e] at this
  simpa using this
theorem take_fl {l : List Nt} {i j : Nat} (hi : i < j * 2) (_hj : j ≤ l.length) : fl (l.take j) i = fl l i := by
  have e : (l.take j).getD (i / 2) (0, 0) = l.getD (i / 2) (0, 0) := by
    rw [List.getD_eq_getElem?_getD, List.getD_eq_getElem?_getD, List.getElem?_take_of_lt (by omega)]
  unfold fl; rw [e]
theorem left_take {q : Int} {l : List Nt} {j : Nat} (hj : j < l.length) : left q (l.take (j + 1)) = left q (l.take j) ++ (if q < fl l (j * 2) then [(fl l (j * 2), fl l (j * 2 + 1))] else []) := by
  rw [List.take_add_one, left_app, List.getElem?_eq_getElem hj]
  congr 1
  rw [fl_even, fl_odd, List.getD_eq_getElem?_getD, List.getElem?_eq_getElem hj]
  simp only [Option.toList_some, Option.getD_some, left, List.filter_cons, List.filter_nil]
  by_cases c : q < l[j].1 <;> simp [c]
end Ln
/-- The closure that tells which notes were heard. -/
abbrev hdF (sb : Nat) : Value := .func (.func 122) #[] #[.pointer (some ⟨sb, 0, none⟩)]
set_option maxRecDepth 100000 in
theorem heardF_any (q x y : Int) (sb : Nat) (w : World) (h : w.cell? ⟨sb, 0, none⟩ = some (.int .i64 q)) :
    Calls Tryz.prog 122 #[.agg #[.int .i64 x, .int .i64 y], .pointer (some ⟨sb, 0, none⟩)] w fun e w' => e = .returned (.bool (decide (x ≤ q))) ∧ Below w.heap.size w w' := by
  have hl := World.block_lt_of_cell? _ _ h
  have h2 : (w.alloc (.cells #[.int .i64 x, .int .i64 y] 37)).cell? ⟨sb, 0, none⟩ = some (.int .i64 q) := ((nbel_alloc w _).cell hl).trans h
  go_enter Tryz.func122, Tryz.ntmps122
  go_wp2_with fail
  go_ret
  exact ⟨rfl, nbel_alloc _ _⟩
def IxEnd (q : Int) (n : Nat) (f : Nat → Int) (z : Int) : Prop := (z = -1 ∧ ∀ i, i < n → q < f (i * 2)) ∨ ∃ i : Nat, z = i ∧ i < n ∧ f (i * 2) ≤ q ∧ ∀ k, k < i → q < f (k * 2)
set_option maxRecDepth 100000 in
set_option maxHeartbeats 2000000 in
theorem lnidx_any (a : Option Addr) (n c sb : Nat) (f : Nat → Int) (q : Int) (w : World) (h : IsIn a (n * 2) f w) (hq : w.cell? ⟨sb, 0, none⟩ = some (.int .i64 q)) (hn : n ≤ 1048576) :
    Calls Tryz.prog 130 #[.slice a n c, hdF sb] w fun e w' => (∃ z : Int, e = .returned (.int .i64 z) ∧ IxEnd q n f z) ∧ Below w.heap.size w w' := by
  have H := Lib.hid h
  have HQ := Lib.hid hq
  clear h hq
  go_enter Tryz.func130, Tryz.ntmps130
  go_wp2_with fail
  go_loopw [5, 8] (fun _ iv wr => ∃ (i : Nat), i ≤ n ∧ iv = .int .i64 i ∧ Hid (Below w.heap.size w wr) ∧ Hid (∀ j, j < i → q < f (j * 2))) (fun _ iv _ => n - (intOf iv).toNat)
  case atStart => exact ⟨0, Nat.zero_le _, rfl, Below.refl _ _, fun j hj => absurd hj (Nat.not_lt_zero _)⟩
  case round =>
    obtain ⟨i, hi, rfl, hB, hP⟩ := hrel
    by_cases hlt : i < n
    · have hltz : (i : Int) < (n : Int) := by omega
      obtain ⟨b, o, e, c0, c1⟩ := (H.out.below hB.out).at2 hlt
      subst e
      have cq := Lib.hid ((hB.out.cell (World.block_lt_of_cell? _ _ HQ.out)).trans HQ.out)
      go_wp2_with fail
      refine (heardF_any q _ _ sb _ cq.out).mono ?_
      rintro e w1 ⟨rfl, hb⟩
      have HB1 : Hid (Below w.heap.size w w1) := hB.out.trans (hb.mono hB.out.size)
      clear hb c0 c1 cq
      by_cases c : f (i * 2) ≤ q
      · rw [decide_eq_true c]
        have HC : Hid (IxEnd q n f (i : Int)) := Or.inr ⟨i, rfl, hlt, c, hP.out⟩
        clear c
        go_wp2_with fail
        go_ret
        exact ⟨⟨_, rfl, HC.out⟩, HB1.out⟩
      · rw [decide_eq_false c]
        have HC : Hid (q < f (i * 2)) := by show q < _; omega
        clear c
        go_wp2_with fail
        go_roundw
        case rel => exact ⟨i + 1, by omega, by go_num, HB1, fun j hj => by
          by_cases e : j = i
          · subst e; exact HC.out
          · exact hP.out j (by omega)⟩
        case measure => simp [intOf]; omega
    · obtain rfl : i = n := by omega
      go_wp2_with fail
      go_ret
      exact ⟨⟨_, rfl, Or.inl ⟨rfl, hP.out⟩⟩, hB.out⟩
theorem lnzero_note : ∀ w, (zeroValue 37).run Tryz.prog w = .ok (.agg #[.int .i64 0, .int .i64 0]) w := by
  intro w
  have h : (Tryz.prog.info? 37).map (·.zero) = some (some (.agg #[.int .i64 0, .int .i64 0])) := by kernel_rfl
  cases hq : Tryz.prog.info? 37 with
  | none => simp [hq] at h
  | some i =>
    have hi : i.zero = some (.agg #[.int .i64 0, .int .i64 0]) := by simpa [hq] using h
    simp [zeroValue, typeInfo, hq, hi]
theorem lnclear {g o n c M : Nat} {F : Nat → Value} {W : World} (h : W.rowIs g 37 M F) (hn : 1 ≤ n) (hf : o + n * 2 ≤ M) (ty : TypeId) :
    ∃ W', (Builtin.clear_ #[26] ty #[.slice (some ⟨g, o, none⟩) n c]).run Tryz.prog W = .ok (.tuple #[]) W' ∧ (∃ F', W'.rowIs g 37 M F' ∧ ∀ j, j < o → F' j = F j) ∧ Only g W W' := by
  obtain ⟨cur, hg, hsz, hcur⟩ := h
  obtain ⟨zs, hzs⟩ : ∃ zs : List Value, zs = List.replicate (n * 2) (.int .i64 0) := ⟨_, rfl⟩
  have hzl : zs.length = n * 2 := by rw [hzs]; simp
  have hzc : (Builtin.zeroCells #[.int .i64 0, .int .i64 0] n).toList = zs := by
    rw [hzs]
    apply List.ext_getElem
    · simp [Builtin.zeroCells]
    · intro i h1 h2
      simp only [Builtin.zeroCells, Array.getElem_toList, Array.getElem_map, Array.getElem_range, List.getElem_replicate]
      have h5 : i % 2 = 0 ∨ i % 2 = 1 := by omega
      rcases h5 with k | k <;> simp [k]
  have hst := run_storeCells_at Tryz.prog g o 37 zs 0 cur W hg (by rw [hzl]; omega) (by
    intro v hv
    rw [hzs] at hv
    rw [List.eq_of_mem_replicate hv]; rfl)
  obtain ⟨m, rfl⟩ : ∃ m, n = m + 1 := ⟨n - 1, by omega⟩
  simp only [Nat.add_zero] at hst
  refine ⟨W.setRow g (cur.toList.take o ++ zs ++ cur.toList.drop (o + zs.length)).toArray, ?_, ⟨fun j => ((cur.toList.take o ++ zs ++ cur.toList.drop (o + zs.length)).toArray[j]?).getD undef, ⟨_, setRow_heap W g cur _ _ _ hg, ?_, fun j hj => ?_⟩, fun j hj => ?_⟩, ⟨rfl, rfl, rfl, by simp [World.setRow], fun k _ hk => setRow_other W g k _ (fun e => hk e)⟩⟩
  · simp [Builtin.clear_, run_underlying Tryz.underlying26, lnzero_note W, Value.cells, hzc, hst]
  · simp [hzl]; omega
  · show _ = some ((_ : Option Value).getD undef)
    rw [Array.getElem?_eq_getElem (by simp [hzl]; omega)]
    rfl
  · have := hcur j (by omega)
    simp only [List.getElem?_toArray]
    rw [List.append_assoc, List.getElem?_append_left (by simp; omega), List.getElem?_take_of_lt hj, Array.getElem?_toList, this]
    rfl
/-- A list of notes in a block, being rewritten: the first ones are those that are left of the first read, those that are still to be read stand. -/
structure DelS (g c sb : Nat) (q : Int) (l : List Ln.Nt) (i j : Nat) (w W : World) : Prop where
  row : ∃ F, W.rowIs g 37 (c * 2) F ∧ (∀ t, t < i * 2 → F t = .int .i64 (Ln.fl (Ln.left q (l.take j)) t)) ∧ (∀ t, j * 2 ≤ t → t < l.length * 2 → F t = .int .i64 (Ln.fl l t))
  num : i = (Ln.left q (l.take j)).length ∧ i < j ∧ j ≤ l.length ∧ l.length ≤ c
  only : Only g w W
  cell : W.cell? ⟨sb, 0, none⟩ = some (.int .i64 q)
  ne : sb ≠ g
theorem DelS.below {g c sb : Nat} {q : Int} {l : List Ln.Nt} {i j : Nat} {w W W' : World} (h : DelS g c sb q l i j w W) (hb : Below W.heap.size W W') : DelS g c sb q l i j w W' := by
  obtain ⟨F, h1, h2, h3⟩ := h.row
  exact ⟨⟨F, nrow_below h1 hb, h2, h3⟩, h.num, ⟨hb.os.trans h.only.os, hb.tape.trans h.only.tape, hb.output.trans h.only.output, Nat.le_trans h.only.size hb.size, fun k hk hne => (hb.block k (Nat.lt_of_lt_of_le hk h.only.size)).trans (h.only.block k hk hne)⟩, (hb.cell (World.block_lt_of_cell? _ _ h.cell)).trans h.cell, h.ne⟩
theorem DelS.skip {g c sb : Nat} {q : Int} {l : List Ln.Nt} {i j : Nat} {w W : World} (h : DelS g c sb q l i j w W) (hj : j < l.length) (hx : Ln.fl l (j * 2) ≤ q) : DelS g c sb q l i (j + 1) w W := by
  have e : Ln.left q (l.take (j + 1)) = Ln.left q (l.take j) := by rw [Ln.left_take hj, if_neg (by omega), List.append_nil]
  obtain ⟨F, h1, h2, h3⟩ := h.row
  have n := h.num
  exact ⟨⟨F, h1, by rw [e]; exact h2, fun t a b => h3 t (by omega) b⟩, by rw [e]; omega, h.only, h.cell, h.ne⟩
theorem DelS.keep {g c sb : Nat} {q : Int} {l : List Ln.Nt} {i j : Nat} {w W : World} (h : DelS g c sb q l i j w W) (hj : j < l.length) (hx : ¬ Ln.fl l (j * 2) ≤ q) : DelS g c sb q l (i + 1) (j + 1) w ((W.setCell ⟨g, i * 2, none⟩ (.int .i64 (Ln.fl l (j * 2)))).setCell ⟨g, i * 2 + 1, none⟩ (.int .i64 (Ln.fl l (j * 2 + 1)))) := by
  have e : Ln.left q (l.take (j + 1)) = Ln.left q (l.take j) ++ [(Ln.fl l (j * 2), Ln.fl l (j * 2 + 1))] := by rw [Ln.left_take hj, if_pos (by omega)]
  obtain ⟨F, h1, h2, h3⟩ := h.row
  obtain ⟨n1, n2, n3, n4⟩ := h.num
  refine ⟨⟨_, (h1.set (i * 2) _).set (i * 2 + 1) _, fun t ht => ?_, fun t a b => ?_⟩, ⟨?_, by omega, by omega, n4⟩, (h.only.set _ _).set _ _, ?_, h.ne⟩
  · rw [e]
    by_cases c1 : t = i * 2 + 1
    · subst c1
      rw [if_pos rfl]
      have := Ln.fl_app2 (Ln.left q (l.take j)) [(Ln.fl l (j * 2), Ln.fl l (j * 2 + 1))] 1
      rw [← n1] at this
      rw [this]; rfl
    · rw [if_neg c1]
      by_cases c2 : t = i * 2
      · subst c2
        rw [if_pos rfl]
        have := Ln.fl_app2 (Ln.left q (l.take j)) [(Ln.fl l (j * 2), Ln.fl l (j * 2 + 1))] 0
        rw [← n1] at this
        have this2 : Ln.fl (Ln.left q (l.take j) ++ [(Ln.fl l (j * 2), Ln.fl l (j * 2 + 1))]) (i * 2) = _ := this
        rw [this2]; rfl
      · rw [if_neg c2, Ln.fl_app _ _ _ (by omega)]
        exact h2 t (by omega)
  · rw [if_neg (by omega), if_neg (by omega)]
    exact h3 t (by omega) b
  · rw [e, List.length_append]; simp; omega
  · rw [World.cell?_setCell_other _ _ _ _ (by intro h2; have := congrArg Addr.block h2; simp at this; exact h.ne this.symm), World.cell?_setCell_other _ _ _ _ (by intro h2; have := congrArg Addr.block h2; simp at this; exact h.ne this.symm)]
    exact h.cell
/-- What DeleteFunc tells. -/
def DelEnd (g c : Nat) (q : Int) (l : List Ln.Nt) (e : Ending) (W : World) : Prop := e = .returned (.slice (some ⟨g, 0, none⟩) (Ln.left q l).length c) ∧ ∃ F, W.rowIs g 37 (c * 2) F ∧ ∀ t, t < (Ln.left q l).length * 2 → F t = .int .i64 (Ln.fl (Ln.left q l) t)
set_option maxRecDepth 100000 in
set_option maxHeartbeats 8000000 in
theorem lndel_any (g c sb : Nat) (q : Int) (l : List Ln.Nt) (w : World) (h : ∃ F, w.rowIs g 37 (c * 2) F ∧ ∀ t, t < l.length * 2 → F t = .int .i64 (Ln.fl l t)) (hc : l.length ≤ c) (hq : w.cell? ⟨sb, 0, none⟩ = some (.int .i64 q)) (hne : sb ≠ g) (hn : l.length ≤ 1048576) :
    Calls Tryz.prog 121 #[.slice (some ⟨g, 0, none⟩) l.length c, hdF sb] w fun e w' => DelEnd g c q l e w' ∧ Only g w w' := by
  obtain ⟨F, hF, hF2⟩ := h
  have hin : IsIn (some ⟨g, 0, none⟩) (l.length * 2) (Ln.fl l) w := Or.inr ⟨g, 0, rfl, fun j hj => by rw [Nat.zero_add, hF.cell (by omega), hF2 j hj]⟩
  have HI := Lib.hid hin
  have HQ := Lib.hid hq
  have HF : Hid (w.rowIs g 37 (c * 2) F) := hF
  have HF2 : Hid (∀ t, t < l.length * 2 → F t = .int .i64 (Ln.fl l t)) := hF2
  clear hF hF2 hin hq
  obtain ⟨N, hN⟩ : ∃ N, N = l.length := ⟨_, rfl⟩
  have HN := Lib.hid hN
  rw [← hN] at hc hn ⊢
  clear hN
  go_enter Tryz.func121, Tryz.ntmps121
  go_wp2_with fail
  refine (lnidx_any _ N c sb _ q _ (by rw [HN.out]; exact HI.out) HQ.out hn).mono ?_
  rintro e w1 ⟨⟨z, rfl, hz⟩, hb⟩
  have HF1 := Lib.hid (nrow_below HF.out hb)
  have HQ1 := Lib.hid ((hb.cell (World.block_lt_of_cell? _ _ HQ.out)).trans HQ.out)
  have HO1 : Hid (Only g w w1) := Only.of_below hb
  clear hb HI HQ HF
  by_cases hz1 : z = -1
  · subst hz1
    have hall : ∀ i, i < N → q < Ln.fl l (i * 2) := by
      rcases hz with ⟨_, h⟩ | ⟨i, h, _⟩
      · exact h
      · omega
    have HE : Hid (Ln.left q l = l) := Ln.left_all (fun i hi => hall i (by rw [HN.out]; exact hi))
    clear hz hall
    go_wp2_with fail
    go_ret
    exact ⟨⟨by rw [HE.out, ← HN.out]; rfl, F, HF1.out, by rw [HE.out]; exact HF2.out⟩, HO1.out⟩
  obtain ⟨i0, rfl, hi0, hx0, hk0⟩ : ∃ i : Nat, z = i ∧ i < N ∧ Ln.fl l (i * 2) ≤ q ∧ ∀ k, k < i → q < Ln.fl l (k * 2) := by
    rcases hz with ⟨h, _⟩ | h
    · exact absurd h hz1
    · exact h
  have HST : Hid (DelS g c sb q l i0 (i0 + 1) w w1) := by
    have hil : i0 < l.length := by rw [← HN.out]; exact hi0
    have e1 : Ln.left q (l.take i0) = l.take i0 := Ln.left_all (fun k hk => by
      rw [List.length_take] at hk
      rw [Ln.take_fl (by omega) (by omega)]
      exact hk0 k (by omega))
    have e2 : Ln.left q (l.take (i0 + 1)) = l.take i0 := by rw [Ln.left_take hil, if_neg (by omega), List.append_nil, e1]
    refine ⟨⟨F, HF1.out, fun t ht => ?_, fun t _ b => HF2.out t b⟩, ⟨by rw [e2, List.length_take]; omega, by omega, by omega, by rw [← HN.out]; exact hc⟩, HO1.out, HQ1.out, hne⟩
    rw [e2, Ln.take_fl ht (by omega)]
    exact HF2.out t (by omega)
  have hne1 : (((i0 : Nat) : Int) == -1) = false := by rw [beq_eq_false_iff_ne]; omega
  have hi1 : i0 + 1 ≤ N := by omega
  clear hz hz1 hx0 hk0 HF1 HF2 HQ1 HO1
  go_wp2_with fail
  go_loopw [5, 6, 7] (fun iv jv _ wr => ∃ (i j : Nat), j ≤ N ∧ i < j ∧ iv = .int .i64 i ∧ jv = .int .i64 j ∧ Hid (DelS g c sb q l i j w wr)) (fun _ jv _ _ => N - (intOf jv).toNat)
  case atStart => exact ⟨i0, i0 + 1, hi1, by omega, rfl, by go_num, HST⟩
  case round =>
    obtain ⟨i, j, hj, hij, rfl, rfl, hS⟩ := hrel
    clear HST
    by_cases hlt : j < N
    · have hltz : (j : Int) < (N : Int) := by omega
      have hiz : (i : Int) < (N : Int) := by omega
      obtain ⟨x, hx⟩ : ∃ x, x = Ln.fl l (j * 2) := ⟨_, rfl⟩
      obtain ⟨y, hy⟩ : ∃ y, y = Ln.fl l (j * 2 + 1) := ⟨_, rfl⟩
      have hjl : j < l.length := by rw [← HN.out]; exact hlt
      have HJL := Lib.hid hjl
      have cc : wr.cell? ⟨g, j * 2, none⟩ = some (.int .i64 x) ∧ wr.cell? ⟨g, j * 2 + 1, none⟩ = some (.int .i64 y) := by
        obtain ⟨G, g1, _, g3⟩ := hS.out.row
        have n4 := hS.out.num.2.2.2
        exact ⟨by rw [hx, g1.cell (by omega), g3 _ (by omega) (by omega)], by rw [hy, g1.cell (by omega), g3 _ (by omega) (by omega)]⟩
      obtain ⟨c0, c1⟩ := cc
      have HX := Lib.hid hx
      have HY := Lib.hid hy
      obtain ⟨V, hV⟩ : ∃ V, V = wr.alloc (.cells #[.int .i64 x, .int .i64 y] 37) := ⟨_, rfl⟩
      have hbV : Below wr.heap.size wr V := by rw [hV]; exact nbel_alloc _ _
      have HV1 := Lib.hid (hS.out.below hbV)
      have HRV : Hid (V.rowIs wr.heap.size 37 2 (rowN [.int .i64 x, .int .i64 y])) := by show V.rowIs _ _ _ _; rw [hV]; exact rowN_alloc _ _ _
      have HV := Lib.hid hV
      clear hV hbV hS hx hy hjl
      go_wp2_with fail
      rw [← HV.out]
      clear HV
      refine (heardF_any q _ _ sb _ HV1.out.cell).mono ?_
      rintro e w2 ⟨rfl, hb⟩
      have HS2 := Lib.hid (HV1.out.below hb)
      obtain ⟨⟨r0, r1⟩, _⟩ := rowN2 (nrow_below HRV.out hb)
      clear hb HV1 HRV c0 c1
      by_cases cx : x ≤ q
      · rw [decide_eq_true cx]
        have HS3 := Lib.hid (HS2.out.skip HJL.out (by rw [← HX.out]; exact cx))
        clear cx HS2
        go_wp2_with fail
        go_roundw
        case rel => exact ⟨i, j + 1, by omega, by omega, rfl, by go_num, HS3⟩
        case measure => simp [intOf]; omega
      · rw [decide_eq_false cx]
        have HS3 := Lib.hid (HS2.out.keep HJL.out (by rw [← HX.out]; exact cx))
        rw [← HX.out, ← HY.out] at HS3
        obtain ⟨⟨u0, d0⟩, ⟨u1, d1⟩, f0, f1, hlg⟩ : (∃ u, w2.cell? ⟨g, i * 2, none⟩ = some u) ∧ (∃ u, w2.cell? ⟨g, i * 2 + 1, none⟩ = some u) ∧ w2.frozen? ⟨g, i * 2, none⟩ = false ∧ w2.frozen? ⟨g, i * 2 + 1, none⟩ = false ∧ g < w2.heap.size := by
          obtain ⟨G, g1, _, _⟩ := HS2.out.row
          have n4 := HS2.out.num
          exact ⟨⟨_, g1.cell (by omega)⟩, ⟨_, g1.cell (by omega)⟩, g1.frozen _, g1.frozen _, g1.lt⟩
        clear cx HS2
        go_wp2_with fail
        go_roundw
        case rel => exact ⟨i + 1, j + 1, by omega, by omega, by go_num, by go_num, HS3⟩
        case measure => simp [intOf]; omega
    · obtain rfl : j = N := by omega
      have hiz : (i : Int) ≤ (j : Int) := by omega
      have hjc : (j : Int) ≤ (c : Int) := by omega
      have hic : ¬ (c : Int) - (i : Int) = 0 := by omega
      obtain ⟨G, g1, g2, _⟩ := hS.out.row
      obtain ⟨W', hcl, ⟨F', hF', hF3⟩, hO⟩ := lnclear (n := j - i) (c := c - i) (o := i * 2) g1 (by omega) (by omega) 0
      have htk : l.take j = l := by rw [HN.out]; exact List.take_length
      have n1 := hS.out.num.1
      rw [htk] at n1 g2
      have HE : Hid (DelEnd g c q l (.returned (.slice (some ⟨g, 0, none⟩) i c)) W') := ⟨by rw [n1], F', hF', fun t ht => by rw [← n1] at ht; rw [hF3 t ht]; exact g2 t ht⟩
      have HOO : Hid (Only g w W') := ⟨hO.os.trans hS.out.only.os, hO.tape.trans hS.out.only.tape, hO.output.trans hS.out.only.output, Nat.le_trans hS.out.only.size hO.size, fun k hk hne => (hO.block k (Nat.lt_of_lt_of_le hk hS.out.only.size) hne).trans (hS.out.only.block k hk hne)⟩
      clear hO hF' hF3 g1 g2 htk n1 hS
      go_wp2_with fail
      go_ret
      exact ⟨HE.out, HOO.out⟩
set_option maxRecDepth 100000 in
set_option maxHeartbeats 2000000 in
theorem lnnil_any (n c sb : Nat) (q : Int) (w : World) (hn : n = 0) (hq : w.cell? ⟨sb, 0, none⟩ = some (.int .i64 q)) :
    Calls Tryz.prog 121 #[.slice none n c, hdF sb] w fun e w' => e = .returned (.slice none n c) ∧ Below w.heap.size w w' := by
  subst hn
  have HQ := Lib.hid hq
  clear hq
  go_enter Tryz.func121, Tryz.ntmps121
  go_wp2_with fail
  refine (lnidx_any none 0 c sb (fun _ => 0) q _ (Or.inl rfl) HQ.out (by omega)).mono ?_
  rintro e w1 ⟨⟨z, rfl, hz⟩, hb⟩
  have HB := Lib.hid hb
  obtain rfl : z = -1 := by
    rcases hz with ⟨h, _⟩ | ⟨i, _, h, _⟩
    · exact h
    · omega
  clear hb hz
  go_wp2_with fail
  go_ret
  exact ⟨rfl, HB.out⟩
set_option maxRecDepth 100000 in
set_option maxHeartbeats 8000000 in
theorem implHeard_any (s : Ln.S) (a : Option Addr) (k : Nat) (q : Int) (w : World) (h : IsIn a (s.wait.length * 2) (Ln.fl s.wait) w) (hn : s.wait.length ≤ 1048576) :
    Calls Tryz.prog 102 #[stV s a k, .int .i64 q] w fun e w' => StEnd (s.heard q) w.heap.size e w' ∧ Below w.heap.size w w' := by
  obtain ⟨W, hW⟩ : ∃ W, W = ((w.alloc (stO s a k)).alloc (.cells #[.int .i64 q] 2)).alloc stZO := ⟨_, rfl⟩
  have hsz : W.heap.size = w.heap.size + 3 := by rw [hW]; simp
  have HB : Hid (Below w.heap.size w W) := by show Below _ _ _; rw [hW]; exact (((Below.refl _ _).alloc (Nat.le_refl _) _).alloc (by simp) _).alloc (by simp; omega) _
  have HX : Hid (W.rowIs w.heap.size 28 7 (rowN (stL s a k))) := by show W.rowIs _ _ _ _; rw [hW]; exact nrow_below (nrow_below (rowN_alloc w (stL s a k) _) (nbel_alloc _ _)) (nbel_alloc _ _)
  have HC : Hid (W.rowIs (w.heap.size + 1) 2 1 (rowN [.int .i64 q])) := by show W.rowIs _ _ _ _; rw [hW]; exact nrow_below (rowN_alloc' (by simp) [.int .i64 q] _) (nbel_alloc _ _)
  have HY : Hid (W.rowIs (w.heap.size + 2) 28 7 (rowN stZ)) := by show W.rowIs _ _ _ _; rw [hW]; exact rowN_alloc' (by simp) stZ _
  have H := Lib.hid (h.below HB.out)
  have HN := Lib.hid hn
  have HW := Lib.hid hW
  have HSZ := Lib.hid hsz
  clear hW h hsz
  go_enter Tryz.func102, Tryz.ntmps102
  go_wp2_with fail
  rw [← HW.out]
  clear HW
  refine (cln_any a k s.wait _ H.out HN.out).mono ?_
  rintro e w1 ⟨⟨v1, rfl, hown⟩, hb⟩
  rw [HSZ.out] at hown
  obtain ⟨a1, k1, rfl, _, _⟩ := own_ns hown
  replace HX := Lib.hid (nrow_below HX.out hb)
  replace HY := Lib.hid (nrow_below HY.out hb)
  replace HC := Lib.hid (nrow_below HC.out hb)
  replace HB : Hid (Below w.heap.size w w1) := HB.out.trans (hb.mono HB.out.size)
  have HO := Lib.hid hown
  have hs1 : w.heap.size + 3 ≤ w1.heap.size := by have := hb.size; rw [HSZ.out] at this; exact this
  clear hb hown H HSZ
  obtain ⟨W2, hW2⟩ : ∃ W2, W2 = w1.setCell ⟨w.heap.size, 5, none⟩ (.slice a1 s.wait.length k1) := ⟨_, rfl⟩
  have b2 : ∀ x, x ≠ w.heap.size → W2.heap[x]? = w1.heap[x]? := fun x hx => by rw [hW2]; exact bihs _ _ _ hx _ _
  have HX2 : Hid (W2.rowIs w.heap.size 28 7 (rowN (stL s a1 k1))) := by show W2.rowIs _ _ _ _; rw [hW2]; exact rowN_put HX.out 5 _ (by simp)
  have HY2 : Hid (W2.rowIs (w.heap.size + 2) 28 7 (rowN stZ)) := HY.out.of_block (b2 _ (by omega))
  have HC2 : Hid (W2.rowIs (w.heap.size + 1) 2 1 (rowN [.int .i64 q])) := HC.out.of_block (b2 _ (by omega))
  have HB2 : Hid (Below w.heap.size w W2) := by show Below _ _ _; rw [hW2]; exact HB.out.setCell (p := ⟨w.heap.size, 5, none⟩) (Nat.le_refl _) _
  have HO2 : Hid (W2.ownsRow (w.heap.size + 3) 37 2 (.slice a1 s.wait.length k1) s.wait.length (nvs s.wait)) := ownsRow_keep HO.out (Nat.le_refl _) (fun x hx _ => b2 x (by omega))
  have HW2 := Lib.hid hW2
  obtain ⟨⟨x0, x1, x2, x3, x4, x5, x6⟩, f0, f1, f2, f3, f4, f5, f6⟩ := rowN7 HX.out
  have hl0 := HX.out.lt
  clear hW2 b2
  go_wp2_with fail
  rw [← HW2.out]
  clear HW2 HX HY HO HB HC x0 x1 x2 x3 x4 x5 x6 f0 f1 f2 f3 f4 f5 f6 hl0
  obtain ⟨a1', c1', e1, hq, hq2⟩ := own_ns HO2.out
  cases e1
  have HQ := Lib.hid hq
  have HQ2 := Lib.hid hq2
  clear hq hq2
  refine (implSRight_any s a1 k1 _ HQ.out.in_ (by have := HN.out; omega)).mono ?_
  rintro e w3 ⟨rfl, hb⟩
  have HX3 := Lib.hid (nrow_below HX2.out hb)
  have HY3 := Lib.hid (nrow_below HY2.out hb)
  have HC3 := Lib.hid (nrow_below HC2.out hb)
  have HB3 : Hid (Below w.heap.size w w3) := HB2.out.trans (hb.mono HB2.out.size)
  have HQ3 := Lib.hid (HQ.out.below hb)
  have HF3 : Hid ((a1 = none ∧ s.wait.length = 0 ∧ k1 = 0) ∨ ∃ g, a1 = some ⟨g, 0, none⟩ ∧ w.heap.size + 3 ≤ g ∧ s.wait.length ≤ k1 ∧ ∃ F, w3.rowIs g 37 (k1 * 2) F ∧ ∀ j, j < s.wait.length * 2 → F j = .int .i64 (Ln.fl s.wait j)) := by
    rcases HQ2.out with h | ⟨g, e1, e2, e3, F, e4, e5⟩
    · exact Or.inl h
    · exact Or.inr ⟨g, e1, e2, e3, F, nrow_below e4 hb, e5⟩
  clear hb HX2 HY2 HC2 HB2 HQ HO2 HQ2
  obtain ⟨⟨x0, x1, x2, x3, x4, x5, x6⟩, f0, f1, f2, f3, f4, f5, f6⟩ := rowN7 HX3.out
  obtain ⟨⟨y0, y1, y2, y3, y4, y5, y6⟩, g0, g1, g2, g3, g4, g5, g6⟩ := rowN7 HY3.out
  have hl0 := HX3.out.lt
  have hl1 := HY3.out.lt
  by_cases ct : s.Right
  case neg =>
    rw [lB_ff ct]
    have HE : Hid (s.heard q = s) := Ln.S.heard_no ct
    clear ct
    obtain ⟨M, hM⟩ : ∃ M, M = s.wait.length := ⟨_, rfl⟩
    have HM := Lib.hid hM
    clear hM
    have zr := Lib.hid (lput7 HY3.out rfl (.int .i64 s.unit) (.int .i64 s.band) (.bool s.seen) (.int .i64 s.last) (.int .i64 s.next) (.slice a1 s.wait.length k1) (.int .i64 s.drops))
    have zb := Lib.hid (lbel7 HB3.out (g := w.heap.size + 2) (by omega) (.int .i64 s.unit) (.int .i64 s.band) (.bool s.seen) (.int .i64 s.last) (.int .i64 s.next) (.slice a1 s.wait.length k1) (.int .i64 s.drops))
    have zq : Hid (NqOwn 37 w.heap.size s.wait.length a1 (Ln.fl s.wait) ((((((((w3.setCell ⟨w.heap.size + 2, 0, none⟩ (.int .i64 s.unit)).setCell ⟨w.heap.size + 2, 1, none⟩ (.int .i64 s.band)).setCell ⟨w.heap.size + 2, 2, none⟩ (.bool s.seen)).setCell ⟨w.heap.size + 2, 3, none⟩ (.int .i64 s.last)).setCell ⟨w.heap.size + 2, 4, none⟩ (.int .i64 s.next)).setCell ⟨w.heap.size + 2, 5, none⟩ (.slice a1 s.wait.length k1)).setCell ⟨w.heap.size + 2, 6, none⟩ (.int .i64 s.drops)))) := (HQ3.out.same (fun x hx _ => lblk7 (by omega) _ _ _ _ _ _ _)).low (by omega)
    go_wp2_with fail
    refine bodyPost_ret (v := stV ⟨s.unit, s.band, s.seen, s.last, s.next, s.wait, s.drops⟩ a1 k1) ?_ rfl ⟨by rw [HE.out]; exact ⟨_, _, rfl, zq.out⟩, zb.out⟩
    obtain ⟨⟨u0, u1, u2, u3, u4, u5, u6⟩, _⟩ := rowN7 zr.out
    simp only [results, Tryz.results102]
    simp [go_sem, u0, u1, u2, u3, u4, u5, u6]
  rw [lB_tt ct]
  have HE : Hid (s.heard q = ⟨s.unit, s.band, s.seen, s.last, s.next, Ln.left q s.wait, s.drops⟩) := Ln.S.heard_yes ct
  clear ct
  rcases HF3.out with ⟨rfl, hl, rfl⟩ | ⟨gg, rfl, hg5, hlk, hrow⟩
  · have hnil : s.wait = [] := List.eq_nil_of_length_eq_zero hl
    have HLE : Hid (Ln.left q s.wait = s.wait) := by show _ = _; rw [hnil]; rfl
    have HL0 := Lib.hid hl
    clear hl hnil
    go_wp2_with fail
    refine (lnnil_any s.wait.length 0 (w.heap.size + 1) q w3 HL0.out (HC3.out.cell (i := 0) (by omega))).mono ?_
    rintro e w4 ⟨rfl, hb⟩
    have HX4 := Lib.hid (nrow_below HX3.out hb)
    have HY4 := Lib.hid (nrow_below HY3.out hb)
    have HB4 : Hid (Below w.heap.size w w4) := HB3.out.trans (hb.mono HB3.out.size)
    have HQ4 := Lib.hid (HQ3.out.below hb)
    clear hb HX3 HY3 HC3 HB3 HQ3 HF3 x0 x1 x2 x3 x4 x5 x6 f0 f1 f2 f3 f4 f5 f6 y0 y1 y2 y3 y4 y5 y6 g0 g1 g2 g3 g4 g5 g6 hl0 hl1
    obtain ⟨⟨x0, x1, x2, x3, x4, x5, x6⟩, f0, f1, f2, f3, f4, f5, f6⟩ := rowN7 HX4.out
    obtain ⟨⟨y0, y1, y2, y3, y4, y5, y6⟩, g0, g1, g2, g3, g4, g5, g6⟩ := rowN7 HY4.out
    have hl0 := HX4.out.lt
    have hl1 := HY4.out.lt
    obtain ⟨M, hM⟩ : ∃ M, M = s.wait.length := ⟨_, rfl⟩
    rw [← hM]
    have HM := Lib.hid hM
    clear hM
    obtain ⟨V, hV⟩ : ∃ V, V = w4.setCell ⟨w.heap.size, 5, none⟩ (.slice none M 0) := ⟨_, rfl⟩
    have bV : ∀ x, x ≠ w.heap.size → V.heap[x]? = w4.heap[x]? := fun x hx => by rw [hV]; exact bihs _ _ _ hx _ _
    have HBV : Hid (Below w.heap.size w V) := by show Below _ _ _; rw [hV]; exact HB4.out.setCell (p := ⟨w.heap.size, _, none⟩) (Nat.le_refl _) _
    have HYV : Hid (V.rowIs (w.heap.size + 2) 28 7 (rowN stZ)) := HY4.out.of_block (bV _ (by omega))
    have HQV : Hid (NqOwn 37 (w.heap.size + 3) s.wait.length none (Ln.fl s.wait) V) := HQ4.out.same (fun x hx _ => bV x (by omega))
    have HV := Lib.hid hV
    clear hV bV
    have zr := Lib.hid (lput7 HYV.out rfl (.int .i64 s.unit) (.int .i64 s.band) (.bool s.seen) (.int .i64 s.last) (.int .i64 s.next) (.slice none M 0) (.int .i64 s.drops))
    have zb := Lib.hid (lbel7 HBV.out (g := w.heap.size + 2) (by omega) (.int .i64 s.unit) (.int .i64 s.band) (.bool s.seen) (.int .i64 s.last) (.int .i64 s.next) (.slice none M 0) (.int .i64 s.drops))
    have zq : Hid (NqOwn 37 w.heap.size s.wait.length none (Ln.fl s.wait) ((((((((V.setCell ⟨w.heap.size + 2, 0, none⟩ (.int .i64 s.unit)).setCell ⟨w.heap.size + 2, 1, none⟩ (.int .i64 s.band)).setCell ⟨w.heap.size + 2, 2, none⟩ (.bool s.seen)).setCell ⟨w.heap.size + 2, 3, none⟩ (.int .i64 s.last)).setCell ⟨w.heap.size + 2, 4, none⟩ (.int .i64 s.next)).setCell ⟨w.heap.size + 2, 5, none⟩ (.slice none M 0)).setCell ⟨w.heap.size + 2, 6, none⟩ (.int .i64 s.drops)))) := (HQV.out.same (fun x hx _ => lblk7 (by omega) _ _ _ _ _ _ _)).low (by omega)
    rw [HV.out] at zr zb zq
    clear HV HBV HYV HQV
    go_wp2_with fail
    refine bodyPost_ret (v := stV ⟨s.unit, s.band, s.seen, s.last, s.next, s.wait, s.drops⟩ none 0) ?_ rfl ⟨by rw [HE.out, HLE.out]; exact ⟨_, _, rfl, zq.out⟩, zb.out⟩
    obtain ⟨⟨u0, u1, u2, u3, u4, u5, u6⟩, _⟩ := rowN7 zr.out
    simp only [results, Tryz.results102]
    simp only [stV, ← HM.out]
    simp [go_sem, u0, u1, u2, u3, u4, u5, u6]
  · go_wp2_with fail
    refine (lndel_any gg k1 (w.heap.size + 1) q s.wait w3 hrow hlk (HC3.out.cell (i := 0) (by omega)) (by omega) HN.out).mono ?_
    rintro e w4 ⟨⟨rfl, hend⟩, ho⟩
    have HX4 : Hid (w4.rowIs w.heap.size 28 7 (rowN (stL s (some ⟨gg, 0, none⟩) k1))) := HX3.out.of_block (ho.block _ HX3.out.lt (by omega))
    have HY4 : Hid (w4.rowIs (w.heap.size + 2) 28 7 (rowN stZ)) := HY3.out.of_block (ho.block _ HY3.out.lt (by omega))
    have HB4 : Hid (Below w.heap.size w w4) := HB3.out.trans (ho.below (by omega) HB3.out.size)
    have HQ4 : Hid (NqOwn 37 (w.heap.size + 3) (Ln.left q s.wait).length (some ⟨gg, 0, none⟩) (Ln.fl (Ln.left q s.wait)) w4) := by
      obtain ⟨F, e1, e2⟩ := hend
      have := Ln.left_len q s.wait
      exact Or.inr ⟨gg, 0, rfl, hg5, k1 * 2, F, by omega, e1, fun j hj => by rw [Nat.zero_add]; exact e2 j hj⟩
    clear hend ho HX3 HY3 HC3 HB3 HQ3 HF3 x0 x1 x2 x3 x4 x5 x6 f0 f1 f2 f3 f4 f5 f6 y0 y1 y2 y3 y4 y5 y6 g0 g1 g2 g3 g4 g5 g6 hl0 hl1 hrow
    obtain ⟨⟨x0, x1, x2, x3, x4, x5, x6⟩, f0, f1, f2, f3, f4, f5, f6⟩ := rowN7 HX4.out
    obtain ⟨⟨y0, y1, y2, y3, y4, y5, y6⟩, g0, g1, g2, g3, g4, g5, g6⟩ := rowN7 HY4.out
    have hl0 := HX4.out.lt
    have hl1 := HY4.out.lt
    obtain ⟨M, hM⟩ : ∃ M, M = (Ln.left q s.wait).length := ⟨_, rfl⟩
    rw [← hM]
    have HM := Lib.hid hM
    clear hM
    obtain ⟨V, hV⟩ : ∃ V, V = w4.setCell ⟨w.heap.size, 5, none⟩ (.slice (some ⟨gg, 0, none⟩) M k1) := ⟨_, rfl⟩
    have bV : ∀ x, x ≠ w.heap.size → V.heap[x]? = w4.heap[x]? := fun x hx => by rw [hV]; exact bihs _ _ _ hx _ _
    have HBV : Hid (Below w.heap.size w V) := by show Below _ _ _; rw [hV]; exact HB4.out.setCell (p := ⟨w.heap.size, _, none⟩) (Nat.le_refl _) _
    have HYV : Hid (V.rowIs (w.heap.size + 2) 28 7 (rowN stZ)) := HY4.out.of_block (bV _ (by omega))
    have HQV : Hid (NqOwn 37 (w.heap.size + 3) (Ln.left q s.wait).length (some ⟨gg, 0, none⟩) (Ln.fl (Ln.left q s.wait)) V) := HQ4.out.same (fun x hx _ => bV x (by omega))
    have HV := Lib.hid hV
    clear hV bV
    have zr := Lib.hid (lput7 HYV.out rfl (.int .i64 s.unit) (.int .i64 s.band) (.bool s.seen) (.int .i64 s.last) (.int .i64 s.next) (.slice (some ⟨gg, 0, none⟩) M k1) (.int .i64 s.drops))
    have zb := Lib.hid (lbel7 HBV.out (g := w.heap.size + 2) (by omega) (.int .i64 s.unit) (.int .i64 s.band) (.bool s.seen) (.int .i64 s.last) (.int .i64 s.next) (.slice (some ⟨gg, 0, none⟩) M k1) (.int .i64 s.drops))
    have zq : Hid (NqOwn 37 w.heap.size (Ln.left q s.wait).length (some ⟨gg, 0, none⟩) (Ln.fl (Ln.left q s.wait)) ((((((((V.setCell ⟨w.heap.size + 2, 0, none⟩ (.int .i64 s.unit)).setCell ⟨w.heap.size + 2, 1, none⟩ (.int .i64 s.band)).setCell ⟨w.heap.size + 2, 2, none⟩ (.bool s.seen)).setCell ⟨w.heap.size + 2, 3, none⟩ (.int .i64 s.last)).setCell ⟨w.heap.size + 2, 4, none⟩ (.int .i64 s.next)).setCell ⟨w.heap.size + 2, 5, none⟩ (.slice (some ⟨gg, 0, none⟩) M k1)).setCell ⟨w.heap.size + 2, 6, none⟩ (.int .i64 s.drops)))) := (HQV.out.same (fun x hx _ => lblk7 (by omega) _ _ _ _ _ _ _)).low (by omega)
    rw [HV.out] at zr zb zq
    clear HV HBV HYV HQV
    go_wp2_with fail
    refine bodyPost_ret (v := stV ⟨s.unit, s.band, s.seen, s.last, s.next, (Ln.left q s.wait), s.drops⟩ (some ⟨gg, 0, none⟩) k1) ?_ rfl ⟨by rw [HE.out]; exact ⟨_, _, rfl, zq.out⟩, zb.out⟩
    obtain ⟨⟨u0, u1, u2, u3, u4, u5, u6⟩, _⟩ := rowN7 zr.out
    simp only [results, Tryz.results102]
    simp only [stV, ← HM.out]
    simp [go_sem, u0, u1, u2, u3, u4, u5, u6]
end Go.Proofs.YtighcbpcclifoaaGreatDoor
