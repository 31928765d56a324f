/-
  The draws of a tariff and of water.
-/
import Derived.Test.YtnbnfifgajfomaaDoorBiDr
namespace Go.Proofs.YtnbnfifgajfomaaDoor
open Go Go.RowKit Go.Deep

theorem bdap {P : Program} {ops : Array Oper} {o : Oper} {a : Act} {w : World} {K : Act → World → Prop} {Q : Exit → Act → World → Prop} {E : Prop}
    (hg : o.guard = none) (s x : Operand) (t : TypeId) (hop : o.op = Op.call { callee := Callee.builtin Builtin.append, args := #[s, x], argTypes := #[t, t] }) (B : Nat)
    (e : TypeId) (i : TypeInfo) (z : Value) (size bytes : Nat) (h1 : P.underlying t = some (.slice e)) (h2 : P.info? e = some i) (h3 : i.zero = some z) (h4 : i.size = size) (h5 : i.bytes = bytes) (h6 : z.cells.size = size) (h7 : 0 < size)
    (v : Value) (n : Nat) (olds : List Value) (hs : a.eval s = v) (hown : w.ownsRow B e size v n olds)
    (ad : Addr) (m c : Nat) (news : List Value) (hx : a.eval x = .slice (some ad) m c) (hn : news.length = m * size) (hc : ∀ j u, news[j]? = some u → w.cell? (ad.add j) = some u) (h1c : ∀ u ∈ news, u.oneCell' = true)
    (b1 : n + m ≤ maxLen) (b2 : (n + m) * bytes ≤ 140737488355328) (hB : B ≤ w.heap.size)
    (hK : ∀ v' w', w'.ownsRow B e size v' (n + m) (olds ++ news) → w.grownBy w' v.ownBlock → K (a.put o.dst v') w') :
    if Region.wanted o (yielded ops a.tmps) = true then Oper.wp P o a w K Q else E := by
  have hw : Region.wanted o (yielded ops a.tmps) = true := by simp [Region.wanted, hg]
  rw [if_pos hw]
  obtain ⟨v', w', hrun, r1, r2, _⟩ := run_append_own (P := P) w B t o.type e i z size bytes h1 h2 h3 h4 h5 h6 h7 v n olds hown ad m c news hn hc h1c b1 b2 hB
  unfold Oper.wp
  simp [execOp, hop, resolve, invoke, builtin, hs, hx, hrun, Result.andThen]
  exact hK v' w' r1 r2
theorem row_list {W : World} {g n : Nat} {T : TypeId} {l : List Value} (h : W.rowIs g T n (rowN l)) (hn : l.length = n) : ∀ j u, l[j]? = some u → W.cell? ((⟨g, 0, none⟩ : Addr).add j) = some u := by
  intro j u hj
  have hl := (List.getElem?_eq_some_iff.1 hj).1
  have c := h.cell (i := j) (by omega)
  rw [Addr.add_lit, Nat.zero_add, c]
  unfold rowN
  rw [List.getD_eq_getElem?_getD, hj]
  rfl
theorem iv_app (zs ys : List Int) : iv (zs ++ ys) = iv zs ++ iv ys := by unfold iv; rw [List.map_append]
theorem own_ne_row {W : World} {B s n : Nat} {v : Value} {xs : List Value} {T T' : TypeId} {R m : Nat} {F : Nat → Value} (h : W.ownsRow B T s v n xs) (hr : W.rowIs R T' m F) (hT : T ≠ T') : v.ownBlock ≠ some R := by
  intro e
  rcases h.2 with h2 | ⟨g, cap, cur, e1, _, e3, _⟩
  · rw [h2.1] at e; cases e
  · rw [e1] at e
    cases e
    obtain ⟨_, q, _⟩ := hr
    rw [q] at e3
    simp at e3
    exact hT e3.2.symm
/-- The source, the tariff and its list. -/
structure DtS (sb R : Nat) (d s x : Int) (lv : Value) (n : Nat) (zs : List Int) (w W : World) : Prop where
  src : Src sb W
  chg : Chg sb w W
  res : W.rowIs w.heap.size 25 4 (rowN [.int .i64 0, .slice none 0 0, .int .i64 0, .int .i64 0])
  row : W.rowIs R 25 4 (rowN [.int .i64 d, lv, .int .i64 s, .int .i64 x])
  own : W.ownsRow (w.heap.size + 1) 73 2 lv n (iv zs)
  lo : sb < w.heap.size
  rl : w.heap.size < R
section
variable {sb R : Nat} {d s x : Int} {lv lv' : Value} {n n' : Nat} {zs ys : List Int} {w W W' : World}
theorem DtS.sz (h : DtS sb R d s x lv n zs w W) : w.heap.size + 1 ≤ W.heap.size := by have := h.row.lt; have := h.rl; omega
theorem DtS.drew (h : DtS sb R d s x lv n zs w W) (hd : Drew sb W W') : DtS sb R d s x lv n zs w W' :=
  ⟨hd.1, h.chg.trans hd.2, h.res.of_block (hd.2.2.2.2.2 _ h.res.lt (by have := h.lo; omega)), h.row.of_block (hd.2.2.2.2.2 _ h.row.lt (by have := h.lo; have := h.rl; omega)), own_far h.own (fun g e hg => hd.2.2.2.2.2 g hg (by have := (h.own.lt g e).1; have := h.lo; omega)), h.lo, h.rl⟩
theorem DtS.below (h : DtS sb R d s x lv n zs w W) (hb : Below W.heap.size W W') : DtS sb R d s x lv n zs w W' :=
  ⟨h.src.below hb, h.chg.trans (Chg.of_below hb), nrow_below h.res hb, nrow_below h.row hb, own_far h.own (fun g _ hg => hb.block g hg), h.lo, h.rl⟩
/-- All but the list. -/
theorem chg_set (h : Chg sb w W) {g : Nat} (hg : w.heap.size ≤ g) (i : Nat) (u : Value) : Chg sb w (W.setCell ⟨g, i, none⟩ u) :=
  ⟨h.1, h.2.1, h.2.2.1, by have := h.2.2.2.1; simpa using this, fun k hk hne => (Below.heap_setCell _ _ _ _ (by show k ≠ g; omega)).trans (h.2.2.2.2 k hk hne)⟩
theorem DtS.num (h : DtS sb R d s x lv n zs w W) (i : Nat) (u : Value) {d' s' x' : Int} {lv'' : Value} (e : [Value.int .i64 d, lv, .int .i64 s, .int .i64 x].set i u = [.int .i64 d', lv'', .int .i64 s', .int .i64 x']) (hi : i < 4) (ho : W.ownsRow (w.heap.size + 1) 73 2 lv'' n' (iv ys)) : DtS sb R d' s' x' lv'' n' ys w (W.setCell ⟨R, i, none⟩ u) := by
  have lo := h.lo
  have rl := h.rl
  have k : ∀ g, g ≠ R → (W.setCell ⟨R, i, none⟩ u).heap[g]? = W.heap[g]? := fun g hg => Below.heap_setCell _ _ _ _ hg
  refine ⟨src_keep h.src (fun g hg => k g (by omega)), chg_set h.chg (by omega) _ _, nrow_set h.res (by show _ ≠ R; omega) _, by rw [← e]; exact rowN_put h.row i u (by simpa using hi), own_far ho (fun g hg _ => k g (fun e2 => own_ne_row ho h.row (by decide) (by rw [hg, e2]))), lo, rl⟩
theorem DtS.grow (h : DtS sb R d s x lv n zs w W) (hg : W.grownBy W' lv.ownBlock) : W'.rowIs R 25 4 (rowN [.int .i64 d, lv, .int .i64 s, .int .i64 x]) :=
  h.row.of_block (hg.block _ h.row.lt (fun e => own_ne_row h.own h.row (by decide) e.symm))
theorem DtS.push (h : DtS sb R d s x lv n zs w W) (hg : W.grownBy W' lv.ownBlock) {v' : Value} (ho : W'.ownsRow (w.heap.size + 1) 73 2 v' n' (iv ys)) : DtS sb R d s x v' n' ys w (W'.setCell ⟨R, 1, none⟩ v') := by
  have lo := h.lo
  have rl := h.rl
  have sz := h.sz
  have hlt : ∀ g, lv.ownBlock = some g → w.heap.size + 1 ≤ g := fun g e => (h.own.lt g e).1
  have k : ∀ g, g ≤ w.heap.size → W'.heap[g]? = W.heap[g]? := fun g hgl => hg.block g (by omega) (fun e => by have := hlt g e.symm; omega)
  have r := h.grow hg
  have k2 : ∀ g, g ≠ R → (W'.setCell ⟨R, 1, none⟩ v').heap[g]? = W'.heap[g]? := fun g hg => Below.heap_setCell _ _ _ _ hg
  refine ⟨src_keep (src_keep h.src (fun g hgl => k g (by omega))) (fun g hgl => k2 g (by omega)), chg_set ⟨hg.os.trans h.chg.1, hg.tape.trans h.chg.2.1, hg.output.trans h.chg.2.2.1, Nat.le_trans h.chg.2.2.2.1 hg.size, fun g h1 h2 => (k g (by omega)).trans (h.chg.2.2.2.2 g h1 h2)⟩ (by omega) _ _, nrow_set (h.res.of_block (k _ (Nat.le_refl _))) (by show _ ≠ R; omega) _, rowN_put r 1 v' (by simp), own_far ho (fun g hg _ => k2 g (fun e2 => own_ne_row ho r (by decide) (by rw [hg, e2]))), lo, rl⟩
theorem iv_set (zs : List Int) (j : Nat) (u : Int) : (iv zs).set j (.int .i64 u) = iv (zs.set j u) := by unfold iv; rw [List.map_set]
theorem DtS.stored {g c : Nat} (h : DtS sb R d s x (.slice (some ⟨g, 0, none⟩) n c) n zs w W) (j : Nat) (u : Int) : DtS sb R d s x (.slice (some ⟨g, 0, none⟩) n c) n (zs.set j u) w (W.setCell ⟨g, j, none⟩ (.int .i64 u)) := by
  have lo := h.lo
  have rl := h.rl
  have hg := (h.own.lt g rfl).1
  have hne : g ≠ R := fun e => own_ne_row h.own h.row (by decide) (by rw [e]; rfl)
  have ho := (h.own.stored j (.int .i64 u)).1
  rw [iv_set] at ho
  have k : ∀ q, q ≠ g → (W.setCell ⟨g, j, none⟩ (.int .i64 u)).heap[q]? = W.heap[q]? := fun q hq => Below.heap_setCell _ _ _ _ hq
  exact ⟨src_keep h.src (fun q hq => k q (by omega)), chg_set h.chg (by omega) _ _, nrow_set h.res (by show _ ≠ g; omega) _, nrow_set h.row (by show R ≠ g; omega) _, ho, lo, rl⟩
end
set_option maxRecDepth 100000 in
set_option maxHeartbeats 4000000 in
theorem water_any (sb : Nat) (w : World) (h : Src sb w) :
    Calls Tryd.prog 37 #[.pointer (some ⟨sb, 0, none⟩)] w fun e w' => (∃ x : Int, e = .returned (.int .i64 x)) ∧ Drew sb w w' := by
  have H := Lib.hid h
  clear h
  go_enter Tryd.func37, Tryd.ntmps37
  go_wp2_with fail
  refine (one_any sb 20 _ H.out (by omega)).mono ?_
  rintro e w1 ⟨⟨b, rfl⟩, hD⟩
  have HD := Lib.hid hD
  clear hD H
  cases b
  · go_wp2_with fail
    refine (n_any sb 400 _ HD.out.1 (by omega)).mono ?_
    rintro e w2 ⟨⟨y, rfl, _, _, _⟩, hD⟩
    have HD2 : Hid (Drew sb w w2) := ⟨hD.1, HD.out.2.trans hD.2⟩
    clear hD
    go_wp2_with fail
    go_ret
    exact ⟨⟨_, rfl⟩, HD2.out⟩
  · obtain ⟨W6, hW6⟩ : ∃ W, W = w1.alloc (.cells #[.int .i64 (-1), .int .i64 1000000, .int .i64 1000001] 2) := ⟨_, rfl⟩
    have hb6 : Below w1.heap.size w1 W6 := by rw [hW6]; exact nbel_alloc _ _
    obtain ⟨gq, hgq⟩ : ∃ g, g = w1.heap.size := ⟨_, rfl⟩
    have HQ : Hid (W6.rowIs gq 2 3 (rowN [.int .i64 (-1), .int .i64 1000000, .int .i64 1000001])) := by show World.rowIs _ _ _ _ _; rw [hW6, hgq]; exact rowN_alloc _ _ _
    have HQL : Hid (sb < gq) := by show _ < _; rw [hgq]; exact HD.out.1.lt
    have HD6 : Hid (Drew sb w W6) := ⟨HD.out.1.below hb6, HD.out.2.trans (Chg.of_below hb6)⟩
    have HW6 := Lib.hid hW6
    have HGQ := Lib.hid hgq
    clear hb6 hW6 hgq HD
    go_wp2_with fail
    rw [← HW6.out, ← HGQ.out]
    clear HW6 HGQ
    refine (n_any sb 3 _ HD6.out.1 (by omega)).mono ?_
    rintro e w7 ⟨⟨y, rfl, y0, y1, _⟩, hD⟩
    have y2 : y < 3 := y1 (by omega)
    have HD7 : Hid (Drew sb w w7) := ⟨hD.1, HD6.out.2.trans hD.2⟩
    replace HQ := Lib.hid (HQ.out.of_block (hD.2.2.2.2.2 _ HQ.out.lt (by have := HQL.out; omega)))
    clear hD y1 HD6
    have y3 : y = 0 ∨ y = 1 ∨ y = 2 := by omega
    clear y0 y2
    obtain ⟨⟨q0, q1, q2⟩, _⟩ := rowN3 HQ.out
    rcases y3 with rfl | rfl | rfl <;> (go_wp2_with fail; go_ret; exact ⟨⟨_, rfl⟩, HD7.out⟩)
set_option maxRecDepth 100000 in
set_option maxHeartbeats 16000000 in
theorem tariff_any (sb : Nat) (w : World) (h : Src sb w) :
    Calls Tryd.prog 34 #[.pointer (some ⟨sb, 0, none⟩)] w fun e w' => (∃ (t : Bi.T) (a : Option Addr) (k : Nat), e = .returned (tfV t a k) ∧ t.bn ≤ 10 ∧ LsOwn 73 2 w.heap.size t.bn a k t.B w') ∧ Drew sb w w' := by
  obtain ⟨i1, hi1, hy0, hy1, hy2⟩ := info_parts ninfo_Block
  obtain ⟨W, hW⟩ : ∃ W, W = w.alloc (.cells #[.int .i64 0, .slice none 0 0, .int .i64 0, .int .i64 0] 25) := ⟨_, rfl⟩
  have hb : Below w.heap.size w W := by rw [hW]; exact nbel_alloc _ _
  have HS : Hid (Drew sb w W) := ⟨h.below hb, Chg.of_below hb⟩
  have HR : Hid (W.rowIs w.heap.size 25 4 (rowN [.int .i64 0, .slice none 0 0, .int .i64 0, .int .i64 0])) := by show World.rowIs _ _ _ _ _; rw [hW]; exact rowN_alloc w _ _
  have HLO := Lib.hid h.lt
  have HW := Lib.hid hW
  clear hW hb h
  go_enter Tryd.func34, Tryd.ntmps34
  go_wp2_with fail
  rw [← HW.out]
  clear HW
  refine (n_any sb 60 _ HS.out.1 (by omega)).mono ?_
  rintro e w1 ⟨⟨d0, rfl, _, _, _⟩, hD⟩
  replace HR := Lib.hid (HR.out.of_block (hD.2.2.2.2.2 _ HR.out.lt (by have := HLO.out; omega)))
  replace HS : Hid (Drew sb w w1) := ⟨hD.1, HS.out.2.trans hD.2⟩
  clear hD
  go_wp2_with fail
  refine (n_any sb 121 _ HS.out.1 (by omega)).mono ?_
  rintro e w2 ⟨⟨s, rfl, _, _, _⟩, hD⟩
  replace HR := Lib.hid (HR.out.of_block (hD.2.2.2.2.2 _ HR.out.lt (by have := HLO.out; omega)))
  replace HS : Hid (Drew sb w w2) := ⟨hD.1, HS.out.2.trans hD.2⟩
  clear hD
  go_wp2_with fail
  refine (n_any sb 26 _ HS.out.1 (by omega)).mono ?_
  rintro e w3 ⟨⟨x0, rfl, _, _, _⟩, hD⟩
  replace HR := Lib.hid (HR.out.of_block (hD.2.2.2.2.2 _ HR.out.lt (by have := HLO.out; omega)))
  replace HS : Hid (Drew sb w w3) := ⟨hD.1, HS.out.2.trans hD.2⟩
  clear hD
  obtain ⟨W4, hW4⟩ : ∃ W, W = w3.alloc (.cells #[.int .i64 d0, .slice none 0 0, .int .i64 s, .int .i64 x0] 25) := ⟨_, rfl⟩
  obtain ⟨R, hR⟩ : ∃ R, R = w3.heap.size := ⟨_, rfl⟩
  have hb4 : Below w3.heap.size w3 W4 := by rw [hW4]; exact nbel_alloc _ _
  have HT : Hid (DtS sb R d0 s x0 (.slice none 0 0) 0 [] w W4) := ⟨HS.out.1.below hb4, HS.out.2.trans (Chg.of_below hb4), nrow_below HR.out hb4, by rw [hW4, hR]; exact rowN_alloc w3 _ _, World.ownsRow_nil _ _ _ _, HLO.out, by rw [hR]; exact HR.out.lt⟩
  have HW4 := Lib.hid hW4
  have HRR := Lib.hid hR
  clear hb4 hW4 hR HS HR HLO
  go_wp2_with fail
  rw [← HW4.out, ← HRR.out]
  clear HW4 HRR
  refine (n_any sb 4 _ HT.out.src (by omega)).mono ?_
  rintro e w5 ⟨⟨y, rfl, y0, y1, _⟩, hD⟩
  have y2 : y < 4 := y1 (by omega)
  replace HT := Lib.hid (HT.out.drew hD)
  clear hD y1
  obtain ⟨N, hN⟩ : ∃ N : Nat, (N : Int) = 1 + y := ⟨(1 + y).toNat, by omega⟩
  have hN1 : 1 ≤ N ∧ N ≤ 4 := by omega
  go_wp2_with fail
  rw [← hN]
  clear hN y0 y2
  go_loopw [4, 5] (fun uv kv wr => ∃ (k n : Nat) (up : Int) (al : Option Addr) (cl : Nat) (zs : List Int), k + n = N ∧ uv = .int .i64 up ∧ kv = .int .i64 k ∧ Hid (0 ≤ up ∧ up ≤ 100 * n) ∧ Hid (DtS sb R d0 s x0 (.slice al n cl) n zs w wr)) (fun _ kv _ => (intOf kv).toNat)
  case atStart => exact ⟨N, 0, 0, none, 0, [], rfl, rfl, rfl, ⟨by omega, by simp⟩, HT⟩
  case round =>
    clear HT
    obtain ⟨k, n, up, al, cl, zs, hk, rfl, rfl, HU, HT⟩ := hrel
    by_cases hlt : 0 < k
    · have hltz : (0 : Int) < (k : Int) := by omega
      obtain ⟨u0, u1⟩ := HU.out
      have u2 : up ≤ 400 := by omega
      go_wp2_with fail
      refine (n_any sb 80 _ HT.out.src (by omega)).mono ?_
      rintro e w6 ⟨⟨y, rfl, y0, y1, _⟩, hD⟩
      have y2 : y < 80 := y1 (by omega)
      replace HT := Lib.hid (HT.out.drew hD)
      clear hD y1
      obtain ⟨v2, hv2⟩ : ∃ v, v = up + 1 + y := ⟨_, rfl⟩
      have hv3 : 0 ≤ v2 ∧ v2 ≤ 100 * ((n + 1 : Nat) : Int) := by omega
      have HV := Lib.hid hv3
      go_wp2_with fail
      rw [← hv2]
      clear u0 u1 u2 HU y0 y2 hv2 hv3
      obtain ⟨d, hd⟩ : ∃ d, d = d0 := ⟨_, rfl⟩
      obtain ⟨x, hx⟩ : ∃ x, x = x0 := ⟨_, rfl⟩
      rw [← hd, ← hx] at HT
      refine region_L (fun V => V.rowIs R 25 4 (rowN [.int .i64 d, (.slice al n cl), .int .i64 s, .int .i64 x])) 9 (by kernel_rfl) (nrow_below HT.out.row (Below.refl _ _).drew) (fun hHeld => ?_)
      obtain ⟨Z, hZ⟩ : ∃ Z, Z = w6.drew := ⟨_, rfl⟩
      replace HT := Lib.hid (HT.out.below (Below.refl _ _).drew)
      rw [← hZ] at hHeld HT ⊢
      clear hZ
      refine takeL_do (i := 0) (v := (.pointer (some ⟨R, 1, none⟩))) rfl (by kernel_rfl) (by kernel_rfl) (by kernel_rfl) (by kernel_rfl) (fun _ _ _ h => h) (by rfl) ?_ (by assumption) ?_
      · intro w hSw
        skip
        go_simp
      simp only [Act.put, List.setIfInBounds_toArray, List.set_cons_zero, List.set_cons_succ]
      refine takeL_do (i := 1) (v := (.slice al n cl)) rfl (by kernel_rfl) (by kernel_rfl) (by kernel_rfl) (by kernel_rfl) (fun _ _ _ h => h) (by rfl) ?_ (by assumption) ?_
      · intro w hSw
        obtain ⟨⟨q0, q1, q2, q3⟩, _⟩ := rowN4 hSw
        go_simp
      simp only [Act.put, List.setIfInBounds_toArray, List.set_cons_zero, List.set_cons_succ]
      refine takeL_do (i := 2) (v := (.int .i64 v2)) rfl (by kernel_rfl) (by kernel_rfl) (by kernel_rfl) (by kernel_rfl) (fun _ _ _ h => h) (by rfl) ?_ (by assumption) ?_
      · intro w hSw
        skip
        go_simp
      simp only [Act.put, List.setIfInBounds_toArray, List.set_cons_zero, List.set_cons_succ]
      refine takeL_do (i := 3) (v := (.pointer (some ⟨sb, 0, none⟩))) rfl (by kernel_rfl) (by kernel_rfl) (by kernel_rfl) (by kernel_rfl) (fun _ _ _ h => h) (by rfl) ?_ (by assumption) ?_
      · intro w hSw
        skip
        go_simp
      simp only [Act.put, List.setIfInBounds_toArray, List.set_cons_zero, List.set_cons_succ]
      refine takeL_call (i := 4) rfl (by kernel_rfl) (fun K2 hK => ?_)
      go_simp
      refine (n_any sb 90 _ HT.out.src (by omega)).mono ?_
      rintro e Z1 ⟨⟨p, rfl, p0, p1, _⟩, hD⟩
      replace HT := Lib.hid (HT.out.drew hD)
      clear hD
      go_wp2_with fail
      refine hK.out _ _ HT.out.row (fun hHeld2 => ?_)
      clear hK hHeld
      have hHeld := hHeld2
      clear hHeld2
      try simp only [Act.put, List.setIfInBounds_toArray, List.set_cons_zero, List.set_cons_succ]
      clear p0 p1
      refine takeL_do (i := 5) (v := (.agg #[.int .i64 v2, .int .i64 p])) rfl (by kernel_rfl) (by kernel_rfl) (by kernel_rfl) (by kernel_rfl) (fun _ _ _ h => h) (by rfl) ?_ (by assumption) ?_
      · intro w hSw
        skip
        go_simp
      simp only [Act.put, List.setIfInBounds_toArray, List.set_cons_zero, List.set_cons_succ]
      refine takeL_call (i := 6) rfl (by kernel_rfl) (fun K2 hK => ?_)
      obtain ⟨ZS, hZS⟩ : ∃ ZS, ZS = Z1.alloc (.cells #[.int .i64 v2, .int .i64 p] 73) := ⟨_, rfl⟩
      have hb : Below Z1.heap.size Z1 ZS := by rw [hZS]; exact nbel_alloc _ _
      obtain ⟨gs, hgs⟩ : ∃ gs, gs = Z1.heap.size := ⟨_, rfl⟩
      have HL : Hid (∀ j u, [.int .i64 v2, .int .i64 p][j]? = some u → ZS.cell? ((⟨gs, 0, none⟩ : Addr).add j) = some u) := by
        have r : ZS.rowIs gs 73 2 (rowN [.int .i64 v2, .int .i64 p]) := by rw [hZS, hgs]; exact rowN_alloc _ _ _
        exact row_list r rfl
      replace HT := Lib.hid (HT.out.below hb)
      go_simp
      rw [← hZS, ← hgs]
      clear hb hZS hgs
      refine hK.out _ _ HT.out.row (fun hHeld2 => ?_)
      clear hK hHeld
      have hHeld := hHeld2
      clear hHeld2
      try simp only [Act.put, List.setIfInBounds_toArray, List.set_cons_zero, List.set_cons_succ]
      refine takeL_call (i := 7) rfl (by kernel_rfl) (fun K2 hK => ?_)
      refine bdap rfl (.tmp 26) (.tmp 31) 23 rfl (w.heap.size + 1) 73 i1 (.agg #[.int .i64 0, .int .i64 0]) 2 16 Tryd.underlying23 hi1 hy0 hy1 hy2 rfl (by decide) _ n _ rfl HT.out.own ⟨gs, 0, none⟩ 1 1 [.int .i64 v2, .int .i64 p] rfl rfl HL.out ?_ (by unfold maxLen; omega) (by omega) HT.out.sz ?_
      · intro u hu; simp at hu; rcases hu with rfl | rfl <;> rfl
      intro v' ZA hown hgrow
      obtain ⟨av, cv, rfl, _⟩ := ls_of (zs := zs ++ [(v2 : Int), (p : Int)]) (by rw [iv_app]; exact hown)
      have HA := Lib.hid (HT.out.push hgrow (ys := zs ++ [(v2 : Int), (p : Int)]) (by rw [iv_app]; exact hown))
      have HAR : Hid (ZA.rowIs R 25 4 (rowN [.int .i64 d, (.slice al n cl), .int .i64 s, .int .i64 x])) := HT.out.grow hgrow
      clear hown hgrow HL HT
      refine hK.out _ _ HAR.out (fun hHeld2 => ?_)
      clear hK hHeld
      have hHeld := hHeld2
      clear hHeld2
      try simp only [Act.put, List.setIfInBounds_toArray, List.set_cons_zero, List.set_cons_succ]
      refine takeL_do (i := 8) (v := (.pointer (some ⟨R, 1, none⟩))) rfl (by kernel_rfl) (by kernel_rfl) (by kernel_rfl) (by kernel_rfl) (fun _ _ _ h => h) (by rfl) ?_ (by assumption) ?_
      · intro w hSw
        skip
        go_simp
      simp only [Act.put, List.setIfInBounds_toArray, List.set_cons_zero, List.set_cons_succ]
      obtain ⟨⟨o0, o1, o2, o3⟩, z0, z1, z2, z3⟩ := rowN4 HAR.out
      have l0 := HAR.out.lt
      obtain ⟨WZ, hWZ⟩ : ∃ WZ, WZ = ZA.setCell ⟨R, 1, none⟩ (.slice av (n + 1) cv) := ⟨_, rfl⟩
      rw [← hWZ] at HA
      have HWZ := Lib.hid hWZ
      clear hWZ
      refine takeL_last rfl (by kernel_rfl) (by kernel_rfl) (fun K2 hK => ?_)
      go_simp
      rw [← HWZ.out]
      refine hK.out _ _ ?_
      clear hK hHeld HWZ HAR o0 o1 o2 o3 z0 z1 z2 z3 l0
      subst hd hx
      go_wp2_with fail
      obtain ⟨k', rfl⟩ : ∃ k', k = k' + 1 := ⟨k - 1, by omega⟩
      go_roundw
      case rel => exact ⟨k', n + 1, v2, av, cv, _, by omega, rfl, by go_num, HV, HA⟩
      case measure => simp [intOf]
    · obtain rfl : k = 0 := by omega
      obtain rfl : n = N := by omega
      clear HU
      obtain ⟨gl, c2, e2⟩ : ∃ g c, (Value.slice al n cl) = .slice (some ⟨g, 0, none⟩) n c := by
        rcases HT.out.own.2 with h2 | ⟨g, cap, _, e1, _⟩
        · exact absurd h2.2 (by omega)
        · exact ⟨g, cap, e1⟩
      cases e2
      obtain ⟨n1, rfl⟩ : ∃ n1, n = n1 + 1 := ⟨n - 1, by omega⟩
      go_wp2_with fail
      refine (one_any sb 3 _ HT.out.src (by omega)).mono ?_
      rintro e w6 ⟨⟨b, rfl⟩, hD⟩
      replace HT := Lib.hid (HT.out.drew hD)
      clear hD
      go_upto_if 35 with fail
      go_cut [] from 36 to 45 (fun wx => ∃ zs : List Int, Hid (DtS sb R d0 s x0 (.slice (some ⟨gl, 0, none⟩) (n1 + 1) cl) (n1 + 1) zs w wx))
      case first =>
        cases b
        · go_wp2_with fail
          go_meet
          case rel => exact ⟨_, HT⟩
        · go_wp2_with fail
          obtain ⟨d, hd⟩ : ∃ d, d = d0 := ⟨_, rfl⟩
          obtain ⟨x, hx⟩ : ∃ x, x = x0 := ⟨_, rfl⟩
          rw [← hd, ← hx] at HT
          refine region_L (fun V => V.rowIs R 25 4 (rowN [.int .i64 d, (.slice (some ⟨gl, 0, none⟩) (n1 + 1) cl), .int .i64 s, .int .i64 x])) 10 (by kernel_rfl) (nrow_below HT.out.row (Below.refl _ _).drew) (fun hHeld => ?_)
          obtain ⟨Z, hZ⟩ : ∃ Z, Z = w6.drew := ⟨_, rfl⟩
          replace HT := Lib.hid (HT.out.below (Below.refl _ _).drew)
          rw [← hZ] at hHeld HT ⊢
          clear hZ
          refine takeL_do (i := 0) (v := (.pointer (some ⟨R, 1, none⟩))) rfl (by kernel_rfl) (by kernel_rfl) (by kernel_rfl) (by kernel_rfl) (fun _ _ _ h => h) (by rfl) ?_ (by assumption) ?_
          · intro w hSw
            skip
            go_simp
          simp only [Act.put, List.setIfInBounds_toArray, List.set_cons_zero, List.set_cons_succ]
          refine takeL_do (i := 1) (v := (.slice (some ⟨gl, 0, none⟩) (n1 + 1) cl)) rfl (by kernel_rfl) (by kernel_rfl) (by kernel_rfl) (by kernel_rfl) (fun _ _ _ h => h) (by rfl) ?_ (by assumption) ?_
          · intro w hSw
            obtain ⟨⟨q0, q1, q2, q3⟩, _⟩ := rowN4 hSw
            go_simp
          simp only [Act.put, List.setIfInBounds_toArray, List.set_cons_zero, List.set_cons_succ]
          refine takeL_do (i := 2) (v := (.pointer (some ⟨R, 1, none⟩))) rfl (by kernel_rfl) (by kernel_rfl) (by kernel_rfl) (by kernel_rfl) (fun _ _ _ h => h) (by rfl) ?_ (by assumption) ?_
          · intro w hSw
            skip
            go_simp
          simp only [Act.put, List.setIfInBounds_toArray, List.set_cons_zero, List.set_cons_succ]
          refine takeL_do (i := 3) (v := (.slice (some ⟨gl, 0, none⟩) (n1 + 1) cl)) rfl (by kernel_rfl) (by kernel_rfl) (by kernel_rfl) (by kernel_rfl) (fun _ _ _ h => h) (by rfl) ?_ (by assumption) ?_
          · intro w hSw
            obtain ⟨⟨q0, q1, q2, q3⟩, _⟩ := rowN4 hSw
            go_simp
          simp only [Act.put, List.setIfInBounds_toArray, List.set_cons_zero, List.set_cons_succ]
          refine takeL_do (i := 4) (v := (.int .i64 ((n1 + 1 : Nat) : Int))) rfl (by kernel_rfl) (by kernel_rfl) (by kernel_rfl) (by kernel_rfl) (fun _ _ _ h => h) (by rfl) ?_ (by assumption) ?_
          · intro w hSw
            skip
            go_simp
          simp only [Act.put, List.setIfInBounds_toArray, List.set_cons_zero, List.set_cons_succ]
          refine takeL_do (i := 5) (v := (.int .i64 (n1 : Int))) rfl (by kernel_rfl) (by kernel_rfl) (by kernel_rfl) (by kernel_rfl) (fun _ _ _ h => h) (by rfl) ?_ (by assumption) ?_
          · intro w hSw
            skip
            go_simp
            exact dwrap (by omega) (by omega)
          simp only [Act.put, List.setIfInBounds_toArray, List.set_cons_zero, List.set_cons_succ]
          refine takeL_do (i := 6) (v := (.pointer (some ⟨sb, 0, none⟩))) rfl (by kernel_rfl) (by kernel_rfl) (by kernel_rfl) (by kernel_rfl) (fun _ _ _ h => h) (by rfl) ?_ (by assumption) ?_
          · intro w hSw
            skip
            go_simp
          simp only [Act.put, List.setIfInBounds_toArray, List.set_cons_zero, List.set_cons_succ]
          refine takeL_call (i := 7) rfl (by kernel_rfl) (fun K2 hK => ?_)
          go_simp
          refine (edge_any sb _ HT.out.src).mono ?_
          rintro e Z1 ⟨⟨p, rfl, p0, p1⟩, hD⟩
          replace HT := Lib.hid (HT.out.drew hD)
          clear hD
          go_wp2_with fail
          refine hK.out _ _ HT.out.row (fun hHeld2 => ?_)
          clear hK hHeld
          have hHeld := hHeld2
          clear hHeld2
          try simp only [Act.put, List.setIfInBounds_toArray, List.set_cons_zero, List.set_cons_succ]
          clear p0 p1
          refine takeL_call (i := 8) rfl (by kernel_rfl) (fun K2 hK => ?_)
          have hqq : (n1 : Int) < (n1 : Int) + 1 := by omega
          go_simp
          try (rw [if_pos hqq]; go_simp)
          clear hqq
          refine hK.out _ _ HT.out.row (fun hHeld2 => ?_)
          clear hK hHeld
          have hHeld := hHeld2
          clear hHeld2
          try simp only [Act.put, List.setIfInBounds_toArray, List.set_cons_zero, List.set_cons_succ]
          refine takeL_do (i := 9) (v := (.pointer (some ⟨gl, n1 * 2, none⟩))) rfl (by kernel_rfl) (by kernel_rfl) (by kernel_rfl) (by kernel_rfl) (fun _ _ _ h => h) (by rfl) ?_ (by assumption) ?_
          · intro w hSw
            skip
            go_simp
          simp only [Act.put, List.setIfInBounds_toArray, List.set_cons_zero, List.set_cons_succ]
          have qc := HT.out.own.cellAt (n1 * 2) (by omega)
          have ql : n1 * 2 < (iv zs).length := by rw [HT.out.own.1]; omega
          rw [List.getElem?_eq_getElem ql] at qc
          have qf0 := HT.out.own.frozenAt (n1 * 2)
          have l0 := (HT.out.own.lt gl rfl).2
          obtain ⟨WZ, hWZ⟩ : ∃ WZ, WZ = Z1.setCell ⟨gl, n1 * 2, none⟩ (.int .i64 p) := ⟨_, rfl⟩
          have HA : Hid (DtS sb R d s x (.slice (some ⟨gl, 0, none⟩) (n1 + 1) cl) (n1 + 1) (zs.set (n1 * 2) p) w WZ) := by show DtS _ _ _ _ _ _ _ _ _ _; rw [hWZ]; exact HT.out.stored _ _
          have HWZ := Lib.hid hWZ
          clear hWZ HT
          refine takeL_last rfl (by kernel_rfl) (by kernel_rfl) (fun K2 hK => ?_)
          go_simp
          rw [← HWZ.out]
          refine hK.out _ _ ?_
          clear hK hHeld HWZ qc qf0 ql l0
          subst hd hx
          go_wp2_with fail
          go_meet
          case rel => exact ⟨_, HA⟩
      case rest =>
        clear HT
        obtain ⟨zs, HT⟩ := hcut
        obtain ⟨V1, hV1⟩ : ∃ w', w' = wc := ⟨_, rfl⟩
        rw [← hV1] at HT ⊢
        clear hV1
        go_wp2_with fail
        refine (one_any sb 15 _ HT.out.src (by omega)).mono ?_
        rintro e w7 ⟨⟨b, rfl⟩, hD⟩
        replace HT := Lib.hid (HT.out.drew hD)
        clear hD
        go_upto_if 47 with fail
        go_cut [] from 48 to 82 (fun wx => ∃ (d s x : Int) (lv : Value) (n : Nat) (zs : List Int), n ≤ 10 ∧ Hid (DtS sb R d s x lv n zs w wx))
        case first =>
          cases b
          · go_wp2_with fail
            go_meet
            case rel => exact ⟨_, _, _, _, _, _, by omega, HT⟩
          · go_wp2_with fail
            refine (n_any sb 5 _ HT.out.src (by omega)).mono ?_
            rintro e w8 ⟨⟨y, rfl, y0, y1, _⟩, hD⟩
            have y2 : y < 5 := y1 (by omega)
            replace HT := Lib.hid (HT.out.drew hD)
            clear hD y1
            have y3 : y = 0 ∨ y = 1 ∨ y = 2 ∨ y = 3 ∨ y = 4 := by omega
            clear y0 y2
            rcases y3 with rfl | rfl | rfl | rfl | rfl
            · go_wp2_with fail
              refine (n_any sb 2 _ HT.out.src (by omega)).mono ?_
              rintro e w9 ⟨⟨p, rfl, p0, p1, _⟩, hD⟩
              have p2 : p < 2 := p1 (by omega)
              replace HT := Lib.hid (HT.out.drew hD)
              clear hD p1
              obtain ⟨⟨o0, o1, o2, o3⟩, z0, z1, z2, z3⟩ := rowN4 HT.out.row
              have l0 := HT.out.row.lt
              go_wp2_with fail
              go_meet
              case rel => exact ⟨10000 + p, s, x0, _, _, zs, by omega, Lib.hid (HT.out.num 0 _ rfl (by omega) HT.out.own)⟩
            · obtain ⟨⟨o0, o1, o2, o3⟩, z0, z1, z2, z3⟩ := rowN4 HT.out.row
              have l0 := HT.out.row.lt
              go_wp2_with fail
              go_meet
              case rel => exact ⟨d0, s, x0, .slice none 0 0, 0, [], by omega, Lib.hid (HT.out.num 1 _ rfl (by omega) (World.ownsRow_nil _ _ _ _))⟩
            · go_wp2_with fail
              obtain ⟨d, hd⟩ : ∃ d, d = d0 := ⟨_, rfl⟩
              obtain ⟨x, hx⟩ : ∃ x, x = x0 := ⟨_, rfl⟩
              rw [← hd, ← hx] at HT
              refine region_L (fun V => V.rowIs R 25 4 (rowN [.int .i64 d, (.slice (some ⟨gl, 0, none⟩) (n1 + 1) cl), .int .i64 s, .int .i64 x])) 9 (by kernel_rfl) (nrow_below HT.out.row (Below.refl _ _).drew) (fun hHeld => ?_)
              obtain ⟨Z, hZ⟩ : ∃ Z, Z = w8.drew := ⟨_, rfl⟩
              replace HT := Lib.hid (HT.out.below (Below.refl _ _).drew)
              rw [← hZ] at hHeld HT ⊢
              clear hZ
              refine takeL_do (i := 0) (v := (.pointer (some ⟨R, 1, none⟩))) rfl (by kernel_rfl) (by kernel_rfl) (by kernel_rfl) (by kernel_rfl) (fun _ _ _ h => h) (by rfl) ?_ (by assumption) ?_
              · intro w hSw
                skip
                go_simp
              simp only [Act.put, List.setIfInBounds_toArray, List.set_cons_zero, List.set_cons_succ]
              refine takeL_do (i := 1) (v := (.slice (some ⟨gl, 0, none⟩) (n1 + 1) cl)) rfl (by kernel_rfl) (by kernel_rfl) (by kernel_rfl) (by kernel_rfl) (fun _ _ _ h => h) (by rfl) ?_ (by assumption) ?_
              · intro w hSw
                obtain ⟨⟨q0, q1, q2, q3⟩, _⟩ := rowN4 hSw
                go_simp
              simp only [Act.put, List.setIfInBounds_toArray, List.set_cons_zero, List.set_cons_succ]
              refine takeL_do (i := 2) (v := (.agg #[.int .i64 1, .int .i64 1])) rfl (by kernel_rfl) (by kernel_rfl) (by kernel_rfl) (by kernel_rfl) (fun _ _ _ h => h) (by rfl) ?_ (by assumption) ?_
              · intro w hSw
                skip
                go_simp
              simp only [Act.put, List.setIfInBounds_toArray, List.set_cons_zero, List.set_cons_succ]
              refine takeL_do (i := 3) (v := (.pointer (some ⟨sb, 0, none⟩))) rfl (by kernel_rfl) (by kernel_rfl) (by kernel_rfl) (by kernel_rfl) (fun _ _ _ h => h) (by rfl) ?_ (by assumption) ?_
              · intro w hSw
                skip
                go_simp
              simp only [Act.put, List.setIfInBounds_toArray, List.set_cons_zero, List.set_cons_succ]
              refine takeL_call (i := 4) rfl (by kernel_rfl) (fun K2 hK => ?_)
              go_simp
              refine (n_any sb 3 _ HT.out.src (by omega)).mono ?_
              rintro e Z1 ⟨⟨p, rfl, p0, p1, _⟩, hD⟩
              replace HT := Lib.hid (HT.out.drew hD)
              clear hD
              go_wp2_with fail
              refine hK.out _ _ HT.out.row (fun hHeld2 => ?_)
              clear hK hHeld
              have hHeld := hHeld2
              clear hHeld2
              try simp only [Act.put, List.setIfInBounds_toArray, List.set_cons_zero, List.set_cons_succ]
              clear p0 p1
              refine takeL_do (i := 5) (v := (.agg #[.int .i64 0, .int .i64 p])) rfl (by kernel_rfl) (by kernel_rfl) (by kernel_rfl) (by kernel_rfl) (fun _ _ _ h => h) (by rfl) ?_ (by assumption) ?_
              · intro w hSw
                skip
                go_simp
              simp only [Act.put, List.setIfInBounds_toArray, List.set_cons_zero, List.set_cons_succ]
              refine takeL_call (i := 6) rfl (by kernel_rfl) (fun K2 hK => ?_)
              obtain ⟨ZS, hZS⟩ : ∃ ZS, ZS = Z1.alloc (.cells #[.int .i64 1, .int .i64 1, .int .i64 0, .int .i64 p] 73) := ⟨_, rfl⟩
              have hb : Below Z1.heap.size Z1 ZS := by rw [hZS]; exact nbel_alloc _ _
              obtain ⟨gs, hgs⟩ : ∃ gs, gs = Z1.heap.size := ⟨_, rfl⟩
              have HL : Hid (∀ j u, [.int .i64 1, .int .i64 1, .int .i64 0, .int .i64 p][j]? = some u → ZS.cell? ((⟨gs, 0, none⟩ : Addr).add j) = some u) := by
                have r : ZS.rowIs gs 73 4 (rowN [.int .i64 1, .int .i64 1, .int .i64 0, .int .i64 p]) := by rw [hZS, hgs]; exact rowN_alloc _ _ _
                exact row_list r rfl
              replace HT := Lib.hid (HT.out.below hb)
              go_simp
              rw [← hZS, ← hgs]
              clear hb hZS hgs
              refine hK.out _ _ HT.out.row (fun hHeld2 => ?_)
              clear hK hHeld
              have hHeld := hHeld2
              clear hHeld2
              try simp only [Act.put, List.setIfInBounds_toArray, List.set_cons_zero, List.set_cons_succ]
              refine takeL_call (i := 7) rfl (by kernel_rfl) (fun K2 hK => ?_)
              refine bdap rfl (.tmp 69) (.tmp 74) 23 rfl (w.heap.size + 1) 73 i1 (.agg #[.int .i64 0, .int .i64 0]) 2 16 Tryd.underlying23 hi1 hy0 hy1 hy2 rfl (by decide) _ (n1 + 1) _ rfl HT.out.own ⟨gs, 0, none⟩ 2 2 [.int .i64 1, .int .i64 1, .int .i64 0, .int .i64 p] rfl rfl HL.out ?_ (by unfold maxLen; omega) (by omega) HT.out.sz ?_
              · intro u hu; simp at hu; rcases hu with rfl | rfl | rfl | rfl <;> rfl
              intro v' ZA hown hgrow
              obtain ⟨av, cv, rfl, _⟩ := ls_of (zs := zs ++ [(1 : Int), (1 : Int), (0 : Int), (p : Int)]) (by rw [iv_app]; exact hown)
              have HA := Lib.hid (HT.out.push hgrow (ys := zs ++ [(1 : Int), (1 : Int), (0 : Int), (p : Int)]) (by rw [iv_app]; exact hown))
              have HAR : Hid (ZA.rowIs R 25 4 (rowN [.int .i64 d, (.slice (some ⟨gl, 0, none⟩) (n1 + 1) cl), .int .i64 s, .int .i64 x])) := HT.out.grow hgrow
              clear hown hgrow HL HT
              refine hK.out _ _ HAR.out (fun hHeld2 => ?_)
              clear hK hHeld
              have hHeld := hHeld2
              clear hHeld2
              try simp only [Act.put, List.setIfInBounds_toArray, List.set_cons_zero, List.set_cons_succ]
              refine takeL_do (i := 8) (v := (.pointer (some ⟨R, 1, none⟩))) rfl (by kernel_rfl) (by kernel_rfl) (by kernel_rfl) (by kernel_rfl) (fun _ _ _ h => h) (by rfl) ?_ (by assumption) ?_
              · intro w hSw
                skip
                go_simp
              simp only [Act.put, List.setIfInBounds_toArray, List.set_cons_zero, List.set_cons_succ]
              obtain ⟨⟨o0, o1, o2, o3⟩, z0, z1, z2, z3⟩ := rowN4 HAR.out
              have l0 := HAR.out.lt
              obtain ⟨WZ, hWZ⟩ : ∃ WZ, WZ = ZA.setCell ⟨R, 1, none⟩ (.slice av ((n1 + 1) + 2) cv) := ⟨_, rfl⟩
              rw [← hWZ] at HA
              have HWZ := Lib.hid hWZ
              clear hWZ
              refine takeL_last rfl (by kernel_rfl) (by kernel_rfl) (fun K2 hK => ?_)
              go_simp
              rw [← HWZ.out]
              refine hK.out _ _ ?_
              clear hK hHeld HWZ HAR o0 o1 o2 o3 z0 z1 z2 z3 l0
              subst hd hx
              go_wp2_with fail
              go_meet
              case rel => exact ⟨_, _, _, _, _, _, by omega, HA⟩
            · go_wp2_with fail
              refine (n_any sb 2 _ HT.out.src (by omega)).mono ?_
              rintro e w9 ⟨⟨p, rfl, p0, p1, _⟩, hD⟩
              have p2 : p < 2 := p1 (by omega)
              replace HT := Lib.hid (HT.out.drew hD)
              clear hD p1
              obtain ⟨⟨o0, o1, o2, o3⟩, z0, z1, z2, z3⟩ := rowN4 HT.out.row
              have l0 := HT.out.row.lt
              go_wp2_with fail
              go_meet
              case rel => exact ⟨d0, s, 100 + p, _, _, zs, by omega, Lib.hid (HT.out.num 3 _ rfl (by omega) HT.out.own)⟩
            · go_wp2_with fail
              obtain ⟨d, hd⟩ : ∃ d, d = d0 := ⟨_, rfl⟩
              obtain ⟨x, hx⟩ : ∃ x, x = x0 := ⟨_, rfl⟩
              rw [← hd, ← hx] at HT
              refine region_L (fun V => V.rowIs R 25 4 (rowN [.int .i64 d, (.slice (some ⟨gl, 0, none⟩) (n1 + 1) cl), .int .i64 s, .int .i64 x])) 7 (by kernel_rfl) (nrow_below HT.out.row (Below.refl _ _).drew) (fun hHeld => ?_)
              obtain ⟨Z, hZ⟩ : ∃ Z, Z = w8.drew := ⟨_, rfl⟩
              replace HT := Lib.hid (HT.out.below (Below.refl _ _).drew)
              rw [← hZ] at hHeld HT ⊢
              clear hZ
              refine takeL_do (i := 0) (v := (.pointer (some ⟨R, 1, none⟩))) rfl (by kernel_rfl) (by kernel_rfl) (by kernel_rfl) (by kernel_rfl) (fun _ _ _ h => h) (by rfl) ?_ (by assumption) ?_
              · intro w hSw
                skip
                go_simp
              simp only [Act.put, List.setIfInBounds_toArray, List.set_cons_zero, List.set_cons_succ]
              refine takeL_do (i := 1) (v := (.slice (some ⟨gl, 0, none⟩) (n1 + 1) cl)) rfl (by kernel_rfl) (by kernel_rfl) (by kernel_rfl) (by kernel_rfl) (fun _ _ _ h => h) (by rfl) ?_ (by assumption) ?_
              · intro w hSw
                obtain ⟨⟨q0, q1, q2, q3⟩, _⟩ := rowN4 hSw
                go_simp
              simp only [Act.put, List.setIfInBounds_toArray, List.set_cons_zero, List.set_cons_succ]
              refine takeL_do (i := 2) (v := (.pointer (some ⟨sb, 0, none⟩))) rfl (by kernel_rfl) (by kernel_rfl) (by kernel_rfl) (by kernel_rfl) (fun _ _ _ h => h) (by rfl) ?_ (by assumption) ?_
              · intro w hSw
                skip
                go_simp
              simp only [Act.put, List.setIfInBounds_toArray, List.set_cons_zero, List.set_cons_succ]
              refine takeL_call (i := 3) rfl (by kernel_rfl) (fun K2 hK => ?_)
              go_simp
              refine (n_any sb 2 _ HT.out.src (by omega)).mono ?_
              rintro e Z1 ⟨⟨p, rfl, p0, p1, _⟩, hD⟩
              replace HT := Lib.hid (HT.out.drew hD)
              clear hD
              go_wp2_with fail
              refine hK.out _ _ HT.out.row (fun hHeld2 => ?_)
              clear hK hHeld
              have hHeld := hHeld2
              clear hHeld2
              try simp only [Act.put, List.setIfInBounds_toArray, List.set_cons_zero, List.set_cons_succ]
              have p2 : p < 2 := p1 (by omega)
              clear p1
              refine takeL_do (i := 4) (v := (.int .i64 (10000 + p))) rfl (by kernel_rfl) (by kernel_rfl) (by kernel_rfl) (by kernel_rfl) (fun _ _ _ h => h) (by rfl) ?_ (by assumption) ?_
              · intro w hSw
                skip
                go_simp
                try exact dwrap (by omega) (by omega)
              simp only [Act.put, List.setIfInBounds_toArray, List.set_cons_zero, List.set_cons_succ]
              refine takeL_call (i := 5) rfl (by kernel_rfl) (fun K2 hK => ?_)
              go_simp
              refine hK.out _ _ HT.out.row (fun hHeld2 => ?_)
              clear hK hHeld
              have hHeld := hHeld2
              clear hHeld2
              try simp only [Act.put, List.setIfInBounds_toArray, List.set_cons_zero, List.set_cons_succ]
              refine takeL_do (i := 6) (v := (.pointer (some ⟨gl, 1, none⟩))) rfl (by kernel_rfl) (by kernel_rfl) (by kernel_rfl) (by kernel_rfl) (fun _ _ _ h => h) (by rfl) ?_ (by assumption) ?_
              · intro w hSw
                skip
                go_simp
              simp only [Act.put, List.setIfInBounds_toArray, List.set_cons_zero, List.set_cons_succ]
              have qc := HT.out.own.cellAt (1) (by omega)
              have ql : 1 < (iv zs).length := by rw [HT.out.own.1]; omega
              rw [List.getElem?_eq_getElem ql] at qc
              have qf0 := HT.out.own.frozenAt (1)
              have l0 := (HT.out.own.lt gl rfl).2
              obtain ⟨WZ, hWZ⟩ : ∃ WZ, WZ = Z1.setCell ⟨gl, 1, none⟩ (.int .i64 (10000 + p)) := ⟨_, rfl⟩
              have HA : Hid (DtS sb R d s x (.slice (some ⟨gl, 0, none⟩) (n1 + 1) cl) (n1 + 1) (zs.set (1) (10000 + p)) w WZ) := by show DtS _ _ _ _ _ _ _ _ _ _; rw [hWZ]; exact HT.out.stored _ _
              have HWZ := Lib.hid hWZ
              clear hWZ HT
              refine takeL_last rfl (by kernel_rfl) (by kernel_rfl) (fun K2 hK => ?_)
              go_simp
              rw [← HWZ.out]
              refine hK.out _ _ ?_
              clear hK hHeld HWZ qc qf0 ql l0
              subst hd hx
              go_wp2_with fail
              go_meet
              case rel => exact ⟨_, _, _, _, _, _, by omega, HA⟩
        case rest =>
          clear HT
          obtain ⟨d, s, x, lv, n, zs, hn, HT⟩ := hcut
          obtain ⟨V2, hV2⟩ : ∃ w', w' = wc := ⟨_, rfl⟩
          rw [← hV2] at HT ⊢
          clear hV2
          obtain ⟨aL, cL, eL, hL⟩ := ls_of HT.out.own
          subst eL
          have HL := Lib.hid hL
          obtain ⟨⟨r0, r1, r2, r3⟩, _⟩ := rowN4 HT.out.row
          obtain ⟨⟨o0, o1, o2, o3⟩, z0, z1, z2, z3⟩ := rowN4 HT.out.res
          have l0 := HT.out.res.lt
          have hne : R ≠ w.heap.size := by have := HT.out.rl; omega
          have zr := Lib.hid (ac4 HT.out.res (.int .i64 d) (.slice aL n cL) (.int .i64 s) (.int .i64 x))
          have ZO : Hid (∀ g, g ≠ w.heap.size → ((((V2.setCell ⟨w.heap.size, 0, none⟩ (.int .i64 d)).setCell ⟨w.heap.size, 1, none⟩ (.slice aL n cL)).setCell ⟨w.heap.size, 2, none⟩ (.int .i64 s)).setCell ⟨w.heap.size, 3, none⟩ (.int .i64 x)).heap[g]? = V2.heap[g]?) := fun g hg => ac4o hg _ _ _ _
          have ZC : Hid (Chg sb w ((((V2.setCell ⟨w.heap.size, 0, none⟩ (.int .i64 d)).setCell ⟨w.heap.size, 1, none⟩ (.slice aL n cL)).setCell ⟨w.heap.size, 2, none⟩ (.int .i64 s)).setCell ⟨w.heap.size, 3, none⟩ (.int .i64 x))) := chg_set (chg_set (chg_set (chg_set HT.out.chg (Nat.le_refl _) _ _) (Nat.le_refl _) _ _) (Nat.le_refl _) _ _) (Nat.le_refl _) _ _
          clear hL
          go_wp2_with fail
          refine bodyPost_ret (v := tfV ⟨d, n, qf zs, s, x⟩ aL cL) ?_ rfl ⟨⟨⟨d, n, qf zs, s, x⟩, aL, cL, rfl, hn, ?_⟩, ?_, ZC.out⟩
          · obtain ⟨⟨c0, c1, c2, c3⟩, _⟩ := rowN4 zr.out
            simp only [results, Tryd.results34]
            simp [go_sem, c0, c1, c2, c3]
          · exact (HL.out.same (fun k hk _ => ZO.out k (by omega))).low (by omega)
          · exact src_keep HT.out.src (fun g hg => ZO.out g (by have := HT.out.lo; omega))
end Go.Proofs.YtnbnfifgajfomaaDoor
