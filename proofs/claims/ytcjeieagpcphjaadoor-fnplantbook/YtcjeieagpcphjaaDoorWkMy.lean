/-
  The contracts of the program's MixBatches.
-/
import Derived.Test.YtcjeieagpcphjaaDoorWkMx
namespace Go.Proofs.YtcjeieagpcphjaaDoor
open Go.RowKit Go.Deep

theorem info_i64s : (Tryd.prog.info? 24).map (fun i => (i.zero, i.size, i.bytes)) = some (some (.slice none 0 0), 1, 24) := by kernel_rfl
def wtL (bs : Nat → Be) (i : Nat) : List Value := (listOf (fun j => (bs j).wt) i).map (Value.int .i64)
def slL (bs : Nat → Be) (i : Nat) : List Value := listOf (fun j => Value.slice (bs j).pa (bs j).n (bs j).k) i
theorem wtL_succ (bs : Nat → Be) (i : Nat) : wtL bs (i + 1) = wtL bs i ++ [.int .i64 (bs i).wt] := by unfold wtL; rw [listOf_succ, List.map_append]; rfl
theorem slL_succ (bs : Nat → Be) (i : Nat) : slL bs (i + 1) = slL bs i ++ [.slice (bs i).pa (bs i).n (bs i).k] := by unfold slL; rw [listOf_succ]
/-- What stands from round to round. -/
structure MxI (w : World) (bs : Nat → Be) (i : Nat) (v4 : Value) (i5 : Nat) (v5 : Value) (W : World) : Prop where
  o2 : W.rowIs w.heap.size 28 2 (r2 (.int .i64 0) (.slice none 0 0))
  w4 : W.ownsRow (w.heap.size + 1) 2 1 v4 i (wtL bs i)
  w5 : W.ownsRow (w.heap.size + 1) 24 1 v5 i5 (slL bs i5)
  bel : Below w.heap.size w W
theorem own_block {W : World} {B : Nat} {e : TypeId} {s : Nat} {v : Value} {n : Nat} {xs : List Value} (h : W.ownsRow B e s v n xs) {g : Nat} (hg : v.ownBlock = some g) : B ≤ g ∧ ∃ cur, W.heap[g]? = some (.cells cur e (0, 0)) := by
  rcases h.2 with ⟨rfl, _⟩ | ⟨g', cap, cur, rfl, h1, h2, _⟩
  · cases hg
  · simp [Value.ownBlock] at hg
    subst hg
    exact ⟨h1, cur, h2⟩
theorem own_below {W W' : World} {B : Nat} {e : TypeId} {s : Nat} {v : Value} {n : Nat} {xs : List Value} (h : W.ownsRow B e s v n xs) (hb : Below W.heap.size W W') : W'.ownsRow B e s v n xs := by
  refine ⟨h.1, ?_⟩
  rcases h.2 with h | ⟨g, cap, cur, e1, h1, h2, h3⟩
  · exact Or.inl h
  · have hl : g < W.heap.size := by
      rcases Nat.lt_or_ge g W.heap.size with h | h
      · exact h
      · rw [Array.getElem?_eq_none h] at h2; cases h2
    exact Or.inr ⟨g, cap, cur, e1, h1, (hb.block g hl).trans h2, h3⟩
theorem own_ne_row {W : World} {B : Nat} {e : TypeId} {s : Nat} {v : Value} {n : Nat} {xs : List Value} {g : Nat} {t : TypeId} {m : Nat} {F : Nat → Value} (h : W.ownsRow B e s v n xs) (hr : W.rowIs g t m F) (hne : e ≠ t) : some g ≠ v.ownBlock := fun hv => by
  obtain ⟨_, c1, e1⟩ := own_block h hv.symm
  obtain ⟨c2, e2, _⟩ := hr
  rw [e1] at e2
  injection e2 with e2
  injection e2 with _ e3 _
  exact hne e3
theorem MxI.below {w : World} {bs : Nat → Be} {i : Nat} {v4 : Value} {i5 : Nat} {v5 : Value} {W W' : World} (h : MxI w bs i v4 i5 v5 W) (hb : Below W.heap.size W W') : MxI w bs i v4 i5 v5 W' := ⟨wrow_below h.o2 hb, own_below h.w4 hb, own_below h.w5 hb, h.bel.trans (hb.mono h.bel.size)⟩
/-- The two lists lie apart, by what they hold. -/
theorem MxI.apart {w : World} {bs : Nat → Be} {i : Nat} {v4 : Value} {i5 : Nat} {v5 : Value} {W : World} (h : MxI w bs i v4 i5 v5 W) {g : Nat} (h4 : v4.ownBlock = some g) (h5 : v5.ownBlock = some g) : False := by
  obtain ⟨_, c1, e1⟩ := own_block h.w4 h4
  obtain ⟨_, c2, e2⟩ := own_block h.w5 h5
  rw [e1] at e2
  injection e2 with e2
  injection e2 with _ e3 _
  exact absurd e3 (by decide)
theorem MxI.push4 {w : World} {bs : Nat → Be} {i : Nat} {v4 : Value} {i5 : Nat} {v5 v' : Value} {W W' : World} {o : Obj} (h : MxI w bs i v4 i5 v5 W) (hg : (W.alloc o).grownBy W' v4.ownBlock) (hown : W'.ownsRow (w.heap.size + 1) 2 1 v' (i + 1) (wtL bs i ++ [.int .i64 (bs i).wt])) : MxI w bs (i + 1) v' i5 v5 W' := by
  have h1 := h.below (bel_alloc W o)
  have hrow : ∀ k, v4.ownBlock = some k → w.heap.size + 1 ≤ k := fun k e => (own_block h.w4 e).1
  refine ⟨h1.o2.of_block (hg.block _ h1.o2.lt (fun e => by have := hrow _ e.symm; omega)), by rw [wtL_succ]; exact hown, h1.w5.kept hg ?_, ?_⟩
  · rcases hv : v5.ownBlock with _ | g
    · exact Or.inl rfl
    · refine Or.inr (fun e => ?_)
      exact h1.apart e.symm hv
  · exact ⟨hg.os.trans h1.bel.os, hg.tape.trans h1.bel.tape, hg.output.trans h1.bel.output, Nat.le_trans h1.bel.size hg.size, fun k hk => (hg.block k (Nat.lt_of_lt_of_le hk h1.bel.size) (fun e => by have := hrow k e.symm; omega)).trans (h1.bel.block k hk)⟩
theorem MxI.push5 {w : World} {bs : Nat → Be} {i : Nat} {v4 : Value} {i5 : Nat} {v5 v' : Value} {W W' : World} {o : Obj} (h : MxI w bs i v4 i5 v5 W) (hg : (W.alloc o).grownBy W' v5.ownBlock) (hown : W'.ownsRow (w.heap.size + 1) 24 1 v' (i5 + 1) (slL bs i5 ++ [.slice (bs i5).pa (bs i5).n (bs i5).k])) : MxI w bs i v4 (i5 + 1) v' W' := by
  have h1 := h.below (bel_alloc W o)
  have hrow : ∀ k, v5.ownBlock = some k → w.heap.size + 1 ≤ k := fun k e => (own_block h.w5 e).1
  refine ⟨h1.o2.of_block (hg.block _ h1.o2.lt (fun e => by have := hrow _ e.symm; omega)), h1.w4.kept hg ?_, by rw [slL_succ]; exact hown, ?_⟩
  · rcases hv : v4.ownBlock with _ | g
    · exact Or.inl rfl
    · refine Or.inr (fun e => ?_)
      exact h1.apart hv e.symm
  · exact ⟨hg.os.trans h1.bel.os, hg.tape.trans h1.bel.tape, hg.output.trans h1.bel.output, Nat.le_trans h1.bel.size hg.size, fun k hk => (hg.block k (Nat.lt_of_lt_of_le hk h1.bel.size) (fun e => by have := hrow k e.symm; omega)).trans (h1.bel.block k hk)⟩
/-- What the lists are behind the loop. -/
theorem own_wts {B : Nat} {v : Value} {m : Nat} {bs : Nat → Be} {W : World} (h : W.ownsRow B 2 1 v m (wtL bs m)) : ∃ a k, v = .slice a m k ∧ IntsAt a m (fun i => (bs i).wt) W := by
  have h' : W.ownsRow B 2 1 v (listOf (fun j => (bs j).wt) m).length ((listOf (fun j => (bs j).wt) m).map (Value.int .i64)) := by rw [listOf_len]; exact h
  rcases own_ints h' with ⟨e1, e2⟩ | ⟨g, k, e1, hg, hblk⟩
  · have hn : m = 0 := by have := congrArg List.length e2; simpa [listOf_len] using this
    exact ⟨none, 0, by rw [e1, hn], Or.inl hn⟩
  · rw [listOf_len] at e1 hblk
    exact ⟨_, k, e1, (hblk.congr (fun j hj => inList_of _ hj)).at_⟩
theorem own_sls {B : Nat} {v : Value} {m : Nat} {bs : Nat → Be} {W : World} (h : W.ownsRow B 24 1 v m (slL bs m)) : ∃ a k, v = .slice a m k ∧ LsAt a m bs W := by
  rcases h.2 with ⟨rfl, h2⟩ | ⟨g, cap, cur, e1, h1, h2, h3, h4, h5, h6⟩
  · exact ⟨none, 0, by rw [h2], Or.inl h2⟩
  · refine ⟨_, cap, e1, Or.inr ⟨g, rfl, fun i hi => ?_⟩⟩
    have h7 : (cur.toList.take (m * 1))[i]? = (slL bs m)[i]? := by rw [h6]
    rw [List.getElem?_take, if_pos (by omega), Array.getElem?_toList] at h7
    have h8 : (slL bs m)[i]? = some (.slice (bs i).pa (bs i).n (bs i).k) := by simp [slL, listOf, hi]
    rw [h8] at h7
    simp only [World.cell?, h2]
    simpa using h7
/-- What a round's region reads. -/
def MxS (b7 b : Nat) (x y : Be) (W : World) : Prop := W.rowIs b7 28 2 (r2 (.int .i64 x.wt) (.slice x.pa x.n x.k)) ∧ (BeCells b 0 y W ∧ IntsAt x.pa x.n x.f W)
theorem MxS.below {b7 b : Nat} {x y : Be} {W W' : World} (h : MxS b7 b x y W) (hb : Below W.heap.size W W') : MxS b7 b x y W' := ⟨wrow_below h.1 hb, h.2.1.block (hb.block _ h.2.1.lt), h.2.2.below hb⟩
theorem mxS_cells {b7 b : Nat} {x y : Be} {W : World} (h : MxS b7 b x y W) : ((W.cell? ⟨b7, 0, none⟩ = some (.int .i64 x.wt) ∧ W.cell? ⟨b7, 1, none⟩ = some (.slice x.pa x.n x.k)) ∧ True) ∧ W.cell? ⟨b, 1, none⟩ = some (.slice y.pa y.n y.k) := ⟨⟨(row2_cells h.1).1, trivial⟩, by have := h.2.1.2; simpa using this⟩
/-- How mixing ends. -/
def MxEnd (lo m : Nat) (bs : Nat → Wk.Bt) (e : Ending) (W : World) : Prop :=
  (Wk.AllOk m bs ∧ Wk.Ok (Wk.mixed m bs) ∧ ∃ g, e = .returned (.tuple #[btV (Wk.sumW bs m) (some ⟨g, 0, none⟩) (bs 0).n (bs 0).n, .nilIface]) ∧ lo ≤ g ∧ InBlk g (bs 0).n (fun j => Wk.sumP bs j m) W) ∨
  (Wk.AllOk m bs ∧ ¬ Wk.Ok (Wk.mixed m bs) ∧ ∃ er, e = .returned (.tuple #[nilB, er]) ∧ ErrIs er 5) ∨
  (¬ Wk.AllOk m bs ∧ ∃ er, e = .returned (.tuple #[nilB, er]) ∧ ErrIs er 1)
set_option maxRecDepth 100000 in
set_option maxHeartbeats 8000000 in
theorem mixB_any (a : Option Addr) (m cap : Nat) (bs : Nat → Be) (w : World) (h : BtsAt a m bs w) (hm : m ≤ 400) (hn : ∀ i, i < m → (bs i).n ≤ 4194304) (ht : TabOk w) :
    Calls Tryd.prog 53 #[.slice a m cap] w fun e w' => MxEnd w.heap.size m (fun i => (bs i).b) e w' ∧ Below w.heap.size w w' := by
  obtain ⟨W, hW⟩ : ∃ W, W = w.alloc (.cells #[.int .i64 0, .slice none 0 0] 28) := ⟨_, rfl⟩
  have hB : Below w.heap.size w W := by rw [hW]; exact bel_alloc _ _
  have RO : W.rowIs w.heap.size 28 2 (r2 (.int .i64 0) (.slice none 0 0)) := by rw [hW]; exact row2 w _ _ _
  have HW := Lib.hid hW
  have HB := Lib.hid hB
  have HRO := Lib.hid RO
  have HN := Lib.hid hn
  have HT := Lib.hid ht
  by_cases hz : m = 0
  · have hz2 : ((m : Int) == 0) = true := by simp [hz]
    subst hz
    obtain ⟨⟨o0, o1⟩, y0, y1⟩ := row2_cells RO
    clear hW hB RO h hn ht
    go_enter Tryd.func53, Tryd.ntmps53
    go_wp2_with fail
    refine bodyPost_ret (v := .tuple #[nilB, errV ⟨#[97, 32, 109, 105, 120, 116, 117, 114, 101, 32, 111, 102, 32, 110, 111, 116, 104, 105, 110, 103]⟩ 1]) ?_ rfl ⟨Or.inr (Or.inr ⟨fun h => absurd h.1 (by omega), _, rfl, errIs_one _ _⟩), bel_alloc _ _⟩
    simp [results, Tryd.results53, go_sem]
  have hz2 : ((m : Int) == 0) = false := by simp [hz]
  obtain ⟨b, rfl, hc⟩ := h.all (by omega)
  have HC := Lib.hid hc
  have HM : Hid (MxI w bs 0 (.slice none 0 0) 0 (.slice none 0 0) W) := ⟨RO, ⟨rfl, Or.inl ⟨rfl, rfl⟩⟩, ⟨rfl, Or.inl ⟨rfl, rfl⟩⟩, hB⟩
  obtain ⟨i0, hi0, hz0, hz1, hz3⟩ := info_parts info_i64
  obtain ⟨j0, hj0, hy0, hy1, hy3⟩ := info_parts info_i64s
  have HI0 : Hid ((Tryd.prog.info? 2 = some i0 ∧ i0.zero = some (.int .i64 0)) ∧ i0.size = 1 ∧ i0.bytes = 8) := ⟨⟨hi0, hz0⟩, hz1, hz3⟩
  have HJ0 : Hid ((Tryd.prog.info? 24 = some j0 ∧ j0.zero = some (.slice none 0 0)) ∧ j0.size = 1 ∧ j0.bytes = 24) := ⟨⟨hj0, hy0⟩, hy1, hy3⟩
  clear hW hB RO h hn ht hc hi0 hz0 hz1 hz3 hj0 hy0 hy1 hy3
  go_enter Tryd.func53, Tryd.ntmps53
  go_wp2_with fail
  rw [← HW.out]
  go_loopw [4, 5, 19] (fun v4 v5 iv wr => ∃ (i : Nat), i ≤ m ∧ iv = .int .i64 i ∧ Hid (∀ j, j < i → Wk.Ok (bs j).b ∧ (bs j).n = (bs 0).n) ∧ Hid (MxI w bs i v4 i v5 wr)) (fun _ _ iv _ => m - (intOf iv).toNat)
  case atStart => exact ⟨0, Nat.zero_le _, rfl, fun j hj => absurd hj (Nat.not_lt_zero _), HM⟩
  case round =>
    obtain ⟨i, hi, rfl, hP, hI⟩ := hrel
    clear HM HW
    by_cases hlt : i < m
    · have hltz : (i : Int) < (m : Int) := by omega
      have hmz : (0 : Int) < (m : Int) := by omega
      obtain ⟨c0, c1⟩ := (HC.out i hlt).1.block (hI.out.bel.block _ (HC.out i hlt).1.lt)
      obtain ⟨x, hx⟩ : ∃ x, x = bs i := ⟨_, rfl⟩
      obtain ⟨y, hy⟩ : ∃ y, y = bs 0 := ⟨_, rfl⟩
      have hbl : b < wr.heap.size := World.block_lt_of_cell? _ _ c0
      obtain ⟨W1, hW1⟩ : ∃ W1, W1 = wr.alloc (.cells #[.int .i64 x.wt, .slice x.pa x.n x.k] 28) := ⟨_, rfl⟩
      have hb1 : Below wr.heap.size wr W1 := by rw [hW1]; exact bel_alloc _ _
      have HI1 := Lib.hid (hI.out.below hb1)
      have HS1 : Hid (MxS wr.heap.size b x y W1) := by
        refine ⟨by rw [hW1]; exact row2 _ _ _ _, ?_, ?_⟩
        · have q := ((HC.out 0 (by omega)).1.block (hI.out.bel.block _ (HC.out 0 (by omega)).1.lt)).block (hb1.block _ hbl)
          rw [hy]; simpa using q
        · rw [hx]; exact ((HC.out i hlt).2.below hI.out.bel).below hb1
      have HNX : Hid (x.n ≤ 4194304) := by show x.n ≤ _; rw [hx]; exact HN.out i hlt
      have HW1 := Lib.hid hW1
      have HX := Lib.hid hx
      have HY := Lib.hid hy
      have hbl1 : b < W1.heap.size := by have := hb1.size; omega
      rw [← hx] at c0 c1
      clear hx hy hW1 hb1 hI
      obtain ⟨bb, hbb⟩ := bool_of (Wk.OkB x.wt x.n x.f)
      have KB := Lib.hid hbb
      clear hbb
      obtain ⟨B7, hB7⟩ : ∃ B7, B7 = wr.heap.size := ⟨_, rfl⟩
      rw [← hB7] at HS1
      go_wp2_with fail
      rw [← HW1.out, ← hB7]
      clear hB7 HW1 c0 c1
      refine wp_region_held_drew (S := MxS B7 b x y) (by kernel_rfl) (HS1.out.below (Below.refl _ _).drew) (fun hHeld => ?_)
      clear HS1
      refine take_do (i := 0) (v := (btV x.wt x.pa x.n x.k)) rfl (by kernel_rfl) (by kernel_rfl) (by kernel_rfl) (fun _ _ _ h => h) (by rfl) ?_ (by assumption) ?_
      · intro w hSw
        obtain ⟨⟨⟨q0, q1⟩, _⟩, p1⟩ := mxS_cells hSw
        go_simp
      simp only [Act.put, List.setIfInBounds_toArray, List.set_cons_zero, List.set_cons_succ]
      refine take_call (i := 1) rfl (by kernel_rfl) (fun K2 hK => ?_)
      go_simp
      refine ((implBRight_any x.wt x.pa x.n x.k x.f _ hHeld.2.2 HNX.out).mono fun e w' ⟨g1, g2⟩ => ⟨g1.eq KB.out, g2⟩ : Calls Tryd.prog 61 #[btV x.wt x.pa x.n x.k] W1.drew fun e w' => e = .returned (.bool bb) ∧ Gr W1.drew w').mono ?_
      rintro e W2 ⟨rfl, hG⟩
      have HI2 := Lib.hid ((HI1.out.below (Below.refl _ _).drew).below hG.bel)
      have hbl2 : b < W2.heap.size := by have := hG.bel.size; have h2 : W1.drew.heap.size = W1.heap.size := rfl; omega
      go_wp2_with fail
      refine hK.out _ _ (hHeld.below hG.bel) (fun hHeld2 => ?_)
      clear hK hHeld hG HI1
      have hHeld := hHeld2
      clear hHeld2
      cases bb with
      | false =>
        have hno : Hid (¬ Wk.AllOk m (fun i => (bs i).b)) := fun h => by
          have h1 := (h.2 i hlt).1
          have h2 := KB.out.2 (by rw [HX.out]; exact h1)
          cases h2
        refine take_do (i := 2) (v := (.bool true)) rfl (by kernel_rfl) (by kernel_rfl) (by kernel_rfl) (fun _ _ _ h => h) (by rfl) ?_ (by assumption) ?_
        · intro w hSw
          obtain ⟨⟨⟨q0, q1⟩, _⟩, p1⟩ := mxS_cells hSw
          go_simp
        simp only [Act.put, List.setIfInBounds_toArray, List.set_cons_zero, List.set_cons_succ]
        refine take_do (i := 3) (v := (.bool true)) rfl (by kernel_rfl) (by kernel_rfl) (by kernel_rfl) (fun _ _ _ h => h) (by rfl) ?_ (by assumption) ?_
        · intro w hSw
          obtain ⟨⟨⟨q0, q1⟩, _⟩, p1⟩ := mxS_cells hSw
          go_simp
        simp only [Act.put, List.setIfInBounds_toArray, List.set_cons_zero, List.set_cons_succ]
        refine take_skip (i := 4) rfl (by kernel_rfl) (by kernel_rfl) (by kernel_rfl) (fun _ _ _ h => h) (by rfl) (by assumption) ?_
        simp only [Act.put, List.setIfInBounds_toArray, List.set_cons_zero, List.set_cons_succ]
        refine take_skip (i := 5) rfl (by kernel_rfl) (by kernel_rfl) (by kernel_rfl) (fun _ _ _ h => h) (by rfl) (by assumption) ?_
        simp only [Act.put, List.setIfInBounds_toArray, List.set_cons_zero, List.set_cons_succ]
        refine take_skip (i := 6) rfl (by kernel_rfl) (by kernel_rfl) (by kernel_rfl) (fun _ _ _ h => h) (by rfl) (by assumption) ?_
        simp only [Act.put, List.setIfInBounds_toArray, List.set_cons_zero, List.set_cons_succ]
        refine take_skip (i := 7) rfl (by kernel_rfl) (by kernel_rfl) (by kernel_rfl) (fun _ _ _ h => h) (by rfl) (by assumption) ?_
        simp only [Act.put, List.setIfInBounds_toArray, List.set_cons_zero, List.set_cons_succ]
        refine take_skip (i := 8) rfl (by kernel_rfl) (by kernel_rfl) (by kernel_rfl) (fun _ _ _ h => h) (by rfl) (by assumption) ?_
        simp only [Act.put, List.setIfInBounds_toArray, List.set_cons_zero, List.set_cons_succ]
        refine take_skip (i := 9) rfl (by kernel_rfl) (by kernel_rfl) (by kernel_rfl) (fun _ _ _ h => h) (by rfl) (by assumption) ?_
        simp only [Act.put, List.setIfInBounds_toArray, List.set_cons_zero, List.set_cons_succ]
        refine take_skip (i := 10) rfl (by kernel_rfl) (by kernel_rfl) (by kernel_rfl) (fun _ _ _ h => h) (by rfl) (by assumption) ?_
        simp only [Act.put, List.setIfInBounds_toArray, List.set_cons_zero, List.set_cons_succ]
        refine take_skip (i := 11) rfl (by kernel_rfl) (by kernel_rfl) (by kernel_rfl) (fun _ _ _ h => h) (by rfl) (by assumption) ?_
        simp only [Act.put, List.setIfInBounds_toArray, List.set_cons_zero, List.set_cons_succ]
        refine take_skip (i := 12) rfl (by kernel_rfl) (by kernel_rfl) (by kernel_rfl) (fun _ _ _ h => h) (by rfl) (by assumption) ?_
        simp only [Act.put, List.setIfInBounds_toArray, List.set_cons_zero, List.set_cons_succ]
        refine take_do (i := 13) (v := (.bool true)) rfl (by kernel_rfl) (by kernel_rfl) (by kernel_rfl) (fun _ _ _ h => h) (by rfl) ?_ (by assumption) ?_
        · intro w hSw
          obtain ⟨⟨⟨q0, q1⟩, _⟩, p1⟩ := mxS_cells hSw
          go_simp
        simp only [Act.put, List.setIfInBounds_toArray, List.set_cons_zero, List.set_cons_succ]
        refine wpAnyH_done (by kernel_rfl) ?_ _
        clear hHeld
        have HI2b := HI2
        obtain ⟨⟨o0, o1⟩, y0, y1⟩ := row2_cells HI2.out.o2
        go_wp2_with fail
        refine (itoaS_any i (by omega) _ (tab_below HT.out HI2.out.bel)).mono ?_
        rintro e W3 ⟨⟨tx, rfl, htx⟩, hb3⟩
        have HI3 := Lib.hid (HI2.out.below hb3)
        clear hb3 o0 o1 y0 y1
        obtain ⟨⟨o0, o1⟩, y0, y1⟩ := row2_cells HI3.out.o2
        have htz : ¬ 9223372036854775807 < 6 + tx.size := by omega
        have htz2 : ¬ 9223372036854775807 < 6 + tx.size + 13 := by omega
        go_wp2_with fail
        refine bodyPost_ret (v := .tuple #[nilB, errV (((⟨#[98, 97, 116, 99, 104, 32]⟩ : ByteArray) ++ tx) ++ (⟨#[32, 111, 102, 32, 97, 32, 109, 105, 120, 116, 117, 114, 101]⟩ : ByteArray)) 1]) ?_ rfl ⟨Or.inr (Or.inr ⟨hno.out, _, rfl, errIs_one _ _⟩), (HI3.out.bel.setCell (p := ⟨w.heap.size, 0, none⟩) (Nat.le_refl _) _).setCell (p := ⟨w.heap.size, 1, none⟩) (Nat.le_refl _) _⟩
        obtain ⟨⟨a0, a1⟩, _⟩ := row2_cells (row2_put HI3.out.o2 (.int .i64 0) (.slice none 0 0))
        simp only [results, Tryd.results53]
        simp [go_sem, a0, a1]
      | true =>
        have hok : Hid (Wk.Ok (bs i).b) := by show Wk.OkB _ _ _; have := KB.out; rw [HX.out] at this; simpa [Be.b] using this
        refine take_do (i := 2) (v := (.bool false)) rfl (by kernel_rfl) (by kernel_rfl) (by kernel_rfl) (fun _ _ _ h => h) (by rfl) ?_ (by assumption) ?_
        · intro w hSw
          obtain ⟨⟨⟨q0, q1⟩, _⟩, p1⟩ := mxS_cells hSw
          go_simp
        simp only [Act.put, List.setIfInBounds_toArray, List.set_cons_zero, List.set_cons_succ]
        refine take_do (i := 3) (v := (.bool false)) rfl (by kernel_rfl) (by kernel_rfl) (by kernel_rfl) (fun _ _ _ h => h) (by rfl) ?_ (by assumption) ?_
        · intro w hSw
          obtain ⟨⟨⟨q0, q1⟩, _⟩, p1⟩ := mxS_cells hSw
          go_simp
        simp only [Act.put, List.setIfInBounds_toArray, List.set_cons_zero, List.set_cons_succ]
        refine take_do (i := 4) (v := (.pointer (some ⟨B7, 1, none⟩))) rfl (by kernel_rfl) (by kernel_rfl) (by kernel_rfl) (fun _ _ _ h => h) (by rfl) ?_ (by assumption) ?_
        · intro w hSw
          obtain ⟨⟨⟨q0, q1⟩, _⟩, p1⟩ := mxS_cells hSw
          go_simp
        simp only [Act.put, List.setIfInBounds_toArray, List.set_cons_zero, List.set_cons_succ]
        refine take_do (i := 5) (v := (.slice x.pa x.n x.k)) rfl (by kernel_rfl) (by kernel_rfl) (by kernel_rfl) (fun _ _ _ h => h) (by rfl) ?_ (by assumption) ?_
        · intro w hSw
          obtain ⟨⟨⟨q0, q1⟩, _⟩, p1⟩ := mxS_cells hSw
          go_simp
        simp only [Act.put, List.setIfInBounds_toArray, List.set_cons_zero, List.set_cons_succ]
        refine take_do (i := 6) (v := (.int .i64 x.n)) rfl (by kernel_rfl) (by kernel_rfl) (by kernel_rfl) (fun _ _ _ h => h) (by rfl) ?_ (by assumption) ?_
        · intro w hSw
          obtain ⟨⟨⟨q0, q1⟩, _⟩, p1⟩ := mxS_cells hSw
          go_simp
        simp only [Act.put, List.setIfInBounds_toArray, List.set_cons_zero, List.set_cons_succ]
        refine take_do (i := 7) (v := (.slice (some ⟨b, 0, none⟩) m cap)) rfl (by kernel_rfl) (by kernel_rfl) (by kernel_rfl) (fun _ _ _ h => h) (by rfl) ?_ (by assumption) ?_
        · intro w hSw
          obtain ⟨⟨⟨q0, q1⟩, _⟩, p1⟩ := mxS_cells hSw
          go_simp
        simp only [Act.put, List.setIfInBounds_toArray, List.set_cons_zero, List.set_cons_succ]
        refine take_do (i := 8) (v := (.pointer (some ⟨b, 0, none⟩))) rfl (by kernel_rfl) (by kernel_rfl) (by kernel_rfl) (fun _ _ _ h => h) (by rfl) ?_ (by assumption) ?_
        · intro w hSw
          obtain ⟨⟨⟨q0, q1⟩, _⟩, p1⟩ := mxS_cells hSw
          go_simp
        simp only [Act.put, List.setIfInBounds_toArray, List.set_cons_zero, List.set_cons_succ]
        refine take_do (i := 9) (v := (.pointer (some ⟨b, 1, none⟩))) rfl (by kernel_rfl) (by kernel_rfl) (by kernel_rfl) (fun _ _ _ h => h) (by rfl) ?_ (by assumption) ?_
        · intro w hSw
          obtain ⟨⟨⟨q0, q1⟩, _⟩, p1⟩ := mxS_cells hSw
          go_simp
        simp only [Act.put, List.setIfInBounds_toArray, List.set_cons_zero, List.set_cons_succ]
        refine take_do (i := 10) (v := (.slice y.pa y.n y.k)) rfl (by kernel_rfl) (by kernel_rfl) (by kernel_rfl) (fun _ _ _ h => h) (by rfl) ?_ (by assumption) ?_
        · intro w hSw
          obtain ⟨⟨⟨q0, q1⟩, _⟩, p1⟩ := mxS_cells hSw
          go_simp
        simp only [Act.put, List.setIfInBounds_toArray, List.set_cons_zero, List.set_cons_succ]
        refine take_do (i := 11) (v := (.int .i64 y.n)) rfl (by kernel_rfl) (by kernel_rfl) (by kernel_rfl) (fun _ _ _ h => h) (by rfl) ?_ (by assumption) ?_
        · intro w hSw
          obtain ⟨⟨⟨q0, q1⟩, _⟩, p1⟩ := mxS_cells hSw
          go_simp
        simp only [Act.put, List.setIfInBounds_toArray, List.set_cons_zero, List.set_cons_succ]
        by_cases hnn : x.n = y.n
        case neg =>
          have hnz : ((x.n : Int) != (y.n : Int)) = true := by simp; omega
          have hno : Hid (¬ Wk.AllOk m (fun i => (bs i).b)) := fun h => by
            have h1 : (bs i).n = (bs 0).n := (h.2 i hlt).2
            rw [← HX.out, ← HY.out] at h1
            exact hnn h1
          refine take_do (i := 12) (v := (.bool true)) rfl (by kernel_rfl) (by kernel_rfl) (by kernel_rfl) (fun _ _ _ h => h) (by rfl) ?_ (by assumption) ?_
          · intro w hSw
            obtain ⟨⟨⟨q0, q1⟩, _⟩, p1⟩ := mxS_cells hSw
            go_simp
          simp only [Act.put, List.setIfInBounds_toArray, List.set_cons_zero, List.set_cons_succ]
          refine take_do (i := 13) (v := (.bool true)) rfl (by kernel_rfl) (by kernel_rfl) (by kernel_rfl) (fun _ _ _ h => h) (by rfl) ?_ (by assumption) ?_
          · intro w hSw
            obtain ⟨⟨⟨q0, q1⟩, _⟩, p1⟩ := mxS_cells hSw
            go_simp
          simp only [Act.put, List.setIfInBounds_toArray, List.set_cons_zero, List.set_cons_succ]
          refine wpAnyH_done (by kernel_rfl) ?_ _
          clear hHeld
          have HI2b := HI2
          obtain ⟨⟨o0, o1⟩, y0, y1⟩ := row2_cells HI2.out.o2
          go_wp2_with fail
          refine (itoaS_any i (by omega) _ (tab_below HT.out HI2.out.bel)).mono ?_
          rintro e W3 ⟨⟨tx, rfl, htx⟩, hb3⟩
          have HI3 := Lib.hid (HI2.out.below hb3)
          clear hb3 o0 o1 y0 y1
          obtain ⟨⟨o0, o1⟩, y0, y1⟩ := row2_cells HI3.out.o2
          have htz : ¬ 9223372036854775807 < 6 + tx.size := by omega
          have htz2 : ¬ 9223372036854775807 < 6 + tx.size + 13 := by omega
          go_wp2_with fail
          refine bodyPost_ret (v := .tuple #[nilB, errV (((⟨#[98, 97, 116, 99, 104, 32]⟩ : ByteArray) ++ tx) ++ (⟨#[32, 111, 102, 32, 97, 32, 109, 105, 120, 116, 117, 114, 101]⟩ : ByteArray)) 1]) ?_ rfl ⟨Or.inr (Or.inr ⟨hno.out, _, rfl, errIs_one _ _⟩), (HI3.out.bel.setCell (p := ⟨w.heap.size, 0, none⟩) (Nat.le_refl _) _).setCell (p := ⟨w.heap.size, 1, none⟩) (Nat.le_refl _) _⟩
          obtain ⟨⟨a0, a1⟩, _⟩ := row2_cells (row2_put HI3.out.o2 (.int .i64 0) (.slice none 0 0))
          simp only [results, Tryd.results53]
          simp [go_sem, a0, a1]
        have hnz : ((x.n : Int) != (y.n : Int)) = false := by simp; omega
        refine take_do (i := 12) (v := (.bool false)) rfl (by kernel_rfl) (by kernel_rfl) (by kernel_rfl) (fun _ _ _ h => h) (by rfl) ?_ (by assumption) ?_
        · intro w hSw
          obtain ⟨⟨⟨q0, q1⟩, _⟩, p1⟩ := mxS_cells hSw
          go_simp
        simp only [Act.put, List.setIfInBounds_toArray, List.set_cons_zero, List.set_cons_succ]
        refine take_do (i := 13) (v := (.bool false)) rfl (by kernel_rfl) (by kernel_rfl) (by kernel_rfl) (fun _ _ _ h => h) (by rfl) ?_ (by assumption) ?_
        · intro w hSw
          obtain ⟨⟨⟨q0, q1⟩, _⟩, p1⟩ := mxS_cells hSw
          go_simp
        simp only [Act.put, List.setIfInBounds_toArray, List.set_cons_zero, List.set_cons_succ]
        refine wpAnyH_done (by kernel_rfl) ?_ _
        obtain ⟨⟨⟨q0, q1⟩, _⟩, _⟩ := mxS_cells hHeld
        have HHS := Lib.hid hHeld
        have HP1 : Hid (∀ j, j < i + 1 → Wk.Ok (bs j).b ∧ (bs j).n = (bs 0).n) := fun j hj => by
          by_cases e : j = i
          · subst e; exact ⟨hok.out, by rw [← HX.out, ← HY.out]; exact hnn⟩
          · exact hP.out j (by omega)
        clear hnn hnz
        have hb7 : B7 < W2.heap.size := hHeld.1.lt
        clear hHeld hP
        go_wp2_with (at_builtin; refine wpList_append_own _ rfl _ _ 24 rfl (w.heap.size + 1) 2 i0 (.int .i64 0) 1 8 Tryd.underlying24 HI0.out.1.1 HI0.out.1.2 HI0.out.2.1 HI0.out.2.2 rfl (by decide) _ i (wtL bs i) rfl ((HI2.out.below (bel_alloc _ _)).w4) ⟨W2.heap.size, 0, none⟩ 1 1 [.int .i64 x.wt] rfl rfl ?ma1 ?ma2 ?ma3 ?ma4 ?ma5 ?_)
        try (case ma1 =>
          intro j u hj
          match j, hj with
          | 0, hj => simp at hj; subst hj; simp [Addr.add])
        try (case ma2 => first | rfl | (intro u hu; simp at hu; subst hu; rfl))
        try (case ma3 => unfold maxLen; omega)
        try (case ma4 => omega)
        try (case ma5 => have := HI2.out.o2.lt; simp; omega)
        intro v4' W3 hown hgrow hnil
        rw [HX.out] at hown
        have HI3 := Lib.hid (HI2.out.push4 hgrow hown)
        have R7 : W3.rowIs B7 28 2 (r2 (.int .i64 x.wt) (.slice x.pa x.n x.k)) := by
          have hr := wrow_below HHS.out.1 (bel_alloc W2 (.cells #[.int .i64 x.wt] 2))
          exact hr.of_block (hgrow.block _ hr.lt (own_ne_row (HI2.out.below (bel_alloc _ _)).w4 hr (by decide)))
        have HR7 := Lib.hid R7
        clear q0 q1 hb7 hown hgrow hnil HHS HI2 R7
        obtain ⟨⟨q0, q1⟩, _⟩ := row2_cells HR7.out
        have hb7 : B7 < W3.heap.size := HR7.out.lt
        go_wp2_with (at_builtin; refine wpList_append_own _ rfl _ _ 118 rfl (w.heap.size + 1) 24 j0 (.slice none 0 0) 1 24 Tryd.underlying118 HJ0.out.1.1 HJ0.out.1.2 HJ0.out.2.1 HJ0.out.2.2 rfl (by decide) _ i (slL bs i) rfl ((HI3.out.below (bel_alloc _ _)).w5) ⟨W3.heap.size, 0, none⟩ 1 1 [.slice x.pa x.n x.k] rfl rfl ?mb1 ?mb2 ?mb3 ?mb4 ?mb5 ?_)
        try (case mb1 =>
          intro j u hj
          match j, hj with
          | 0, hj => simp at hj; subst hj; simp [Addr.add])
        try (case mb2 => first | rfl | (intro u hu; simp at hu; subst hu; rfl))
        try (case mb3 => unfold maxLen; omega)
        try (case mb4 => omega)
        try (case mb5 => have := HI3.out.o2.lt; simp; omega)
        intro v5' W4 hown hgrow hnil
        rw [HX.out] at hown
        have HI4 := Lib.hid (HI3.out.push5 hgrow hown)
        clear q0 q1 hb7 hown hgrow hnil HI3 HR7
        go_wp2_with fail
        go_roundw
        case rel => exact ⟨i + 1, by omega, by go_num, HP1, HI4⟩
        case measure => simp [intOf]; omega
    · obtain rfl : i = m := by omega
      obtain ⟨a4, k4, rfl, h4⟩ := own_wts hI.out.w4
      obtain ⟨a5, k5, rfl, h5⟩ := own_sls hI.out.w5
      have H4 := Lib.hid h4
      have H5 := Lib.hid h5
      have HAO : Hid (Wk.AllOk i (fun i => (bs i).b)) := ⟨by omega, fun j hj => ⟨(hP.out j hj).1, (hP.out j hj).2⟩⟩
      clear h4 h5
      go_wp2_with fail
      refine (sumAm_any a4 i k4 (fun i => (bs i).b) _ H4.out hm (fun j hj => (hP.out j hj).1)).mono ?_
      rintro e W2 ⟨rfl, rfl⟩
      go_wp2_with fail
      refine (sumPl_any a5 i k5 bs (bs 0).n _ H5.out (by omega) hm (fun j hj => hP.out j hj) (fun j hj => (HC.out j hj).2.below hI.out.bel) (hP.out 0 (by omega)).1.2.1).mono ?_
      rintro e W3 ⟨⟨g, rfl, hg, hgb⟩, hb3⟩
      have HI3 := Lib.hid (hI.out.below hb3)
      have HGB := Lib.hid hgb
      have hsz2 := hI.out.o2.lt
      have HGL : Hid (w.heap.size < g) := by show w.heap.size < g; omega
      clear hb3 hgb hg hsz2 H4 H5 hI
      obtain ⟨S, hS⟩ : ∃ S, S = Wk.sumW (fun i => (bs i).b) i := ⟨_, rfl⟩
      obtain ⟨N, hN⟩ : ∃ N, N = (bs 0).n := ⟨_, rfl⟩
      rw [← hN] at HGB
      rw [← hS, ← hN]
      obtain ⟨W4, hW4⟩ : ∃ W4, W4 = W3.alloc (.cells #[.int .i64 S, .slice (some ⟨g, 0, none⟩) N N] 28) := ⟨_, rfl⟩
      have hb4 : Below W3.heap.size W3 W4 := by rw [hW4]; exact bel_alloc _ _
      have HI4 := Lib.hid (HI3.out.below hb4)
      have HG4 := Lib.hid (HGB.out.below hb4)
      have HR8 : Hid (W4.rowIs W3.heap.size 28 2 (r2 (.int .i64 S) (.slice (some ⟨g, 0, none⟩) N N))) := by show World.rowIs _ _ _ _ _; rw [hW4]; exact row2 _ _ _ _
      have HW4 := Lib.hid hW4
      have HNN : Hid (N ≤ 6) := by show N ≤ 6; rw [hN]; exact (hP.out 0 (by omega)).1.2.1
      have HMX : Hid (∀ F, Wk.OkB S N F = Wk.OkB (Wk.sumW (fun i => (bs i).b) i) (bs 0).n F) := fun F => by rw [hS, hN]
      have HSN : Hid (S = Wk.sumW (fun i => (bs i).b) i ∧ N = (bs 0).n) := ⟨hS, hN⟩
      clear hb4 hW4 hS hN HGB HI3 hP
      obtain ⟨bb, hbb⟩ := bool_of (Wk.OkB S N (fun j => Wk.sumP (fun i => (bs i).b) j i))
      have KB := Lib.hid hbb
      clear hbb
      go_wp2_with fail
      rw [← HW4.out]
      clear HW4
      refine ((implBRight_any S (some ⟨g, 0, none⟩) N N (fun j => Wk.sumP (fun i => (bs i).b) j i) _ HG4.out.at_ (by have := HNN.out; omega)).mono fun e w' ⟨g1, g2⟩ => ⟨g1.eq KB.out, g2⟩ : Calls Tryd.prog 61 #[btV S (some ⟨g, 0, none⟩) N N] W4 fun e w' => e = .returned (.bool bb) ∧ Gr W4 w').mono ?_
      rintro e W5 ⟨rfl, hG⟩
      have HI5 := Lib.hid (HI4.out.below hG.bel)
      have HG5 := Lib.hid (HG4.out.below hG.bel)
      have HR5 := Lib.hid (wrow_below HR8.out hG.bel)
      have hlt5 : W3.heap.size < W5.heap.size := HR5.out.lt
      have hd : W3.heap.size ≠ w.heap.size := by have h1 := HGL.out; have h2 := HR5.out.lt; intro e; have h3 := HI4.out.o2; have h4 := HR8.out; rw [e] at h4; have := h3.cell (i := 0) (by omega); have h5 := h4.cell (i := 1) (by omega); have h6 := h3.cell (i := 1) (by omega); rw [h6] at h5; simp [r2] at h5
      clear hG HI4 HG4 HR8
      obtain ⟨⟨o0, o1⟩, y0, y1⟩ := row2_cells HI5.out.o2
      obtain ⟨⟨q0, q1⟩, _⟩ := row2_cells HR5.out
      cases bb with
      | false =>
        have hno : Hid (¬ Wk.Ok (Wk.mixed i (fun i => (bs i).b))) := fun h => by
          have h2 := KB.out.2 (by rw [HMX.out]; exact h)
          cases h2
        go_wp2_with fail
        refine bodyPost_ret (v := .tuple #[nilB, errV ⟨#[116, 104, 101, 32, 115, 117, 109, 115, 32, 111, 102, 32, 97, 32, 109, 105, 120, 116, 117, 114, 101]⟩ 5]) ?_ rfl ⟨Or.inr (Or.inl ⟨HAO.out, hno.out, _, rfl, errIs_one _ _⟩), (HI5.out.bel.setCell (p := ⟨w.heap.size, 0, none⟩) (Nat.le_refl _) _).setCell (p := ⟨w.heap.size, 1, none⟩) (Nat.le_refl _) _⟩
        obtain ⟨⟨a0, a1⟩, _⟩ := row2_cells (row2_put HI5.out.o2 (.int .i64 0) (.slice none 0 0))
        simp only [results, Tryd.results53]
        simp [go_sem, a0, a1]
      | true =>
        have hyes : Hid (Wk.Ok (Wk.mixed i (fun i => (bs i).b))) := by
          have h2 : Wk.OkB S N (fun j => Wk.sumP (fun i => (bs i).b) j i) := by have := KB.out; simpa using this
          rw [HMX.out] at h2
          exact h2
        go_wp2_with fail
        have hgl := HGL.out
        refine bodyPost_ret (v := .tuple #[btV S (some ⟨g, 0, none⟩) N N, .nilIface]) ?_ rfl ⟨Or.inl ⟨HAO.out, hyes.out, g, ?_, by omega, ?_⟩, (HI5.out.bel.setCell (p := ⟨w.heap.size, 0, none⟩) (Nat.le_refl _) _).setCell (p := ⟨w.heap.size, 1, none⟩) (Nat.le_refl _) _⟩
        · obtain ⟨⟨a0, a1⟩, _⟩ := row2_cells (row2_put HI5.out.o2 (.int .i64 S) (.slice (some ⟨g, 0, none⟩) N N))
          simp only [results, Tryd.results53]
          simp [go_sem, a0, a1]
        · rw [HSN.out.1, HSN.out.2]; rfl
        · have := (HG5.out.block (Below.heap_setCell _ ⟨w.heap.size, 0, none⟩ (.int .i64 S) _ (by show g ≠ w.heap.size; omega))).block (Below.heap_setCell _ ⟨w.heap.size, 1, none⟩ (.slice (some ⟨g, 0, none⟩) N N) _ (by show g ≠ w.heap.size; omega))
          have e : N = ((fun i => (bs i).b) 0).n := HSN.out.2
          rw [← e]
          exact this
end Go.Proofs.YtcjeieagpcphjaaDoor
