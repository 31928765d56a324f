/-
  What a block leans on: the program's.
-/
import Derived.Test.YtiaeobocenanlaaPgUm
import Derived.Test.YtiaeobocenanlaaPgI5
import Derived.Test.YtiaeobocenanlaaPgS2
namespace Go.Proofs.Ytiaeobocenanlaa
open Go.RowKit Go.Deep

/-- The cells of a list of places. -/
def ugV (l : List Nat) : List Value := l.map fun x : Nat => Value.int .i64 (x : Int)
theorem ugV_app (l : List Nat) (x : Nat) : ugV (l ++ [x]) = ugV l ++ [.int .i64 (x : Nat)] := by simp [ugV]
theorem ug_low {B B' n size : Nat} {e : TypeId} {v : Value} {xs : List Value} {W : World} (h : W.ownsRow B e size v n xs) (hb : B' ≤ B) : W.ownsRow B' e size v n xs := ⟨h.1, h.2.imp id (fun ⟨g, cap, cur, e1, e2, r⟩ => ⟨g, cap, cur, e1, Nat.le_trans hb e2, r⟩)⟩
theorem uginfo : (Try.prog.info? 2).map (fun i => (i.zero, i.size, i.bytes)) = some (some (.int .i64 0), 1, 8) := by kernel_rfl
theorem Pg.upU_no {x : Pg.Bk} {u : Nat → Bool} (h0 : ¬ Pg.fp0 x.kind = 1) (h1 : ¬ Pg.fp1 x.kind = 1) : Pg.upU x u = u := by
  funext j; simp [Pg.upU, h0, h1]
theorem Pg.upU_a {x : Pg.Bk} {u : Nat → Bool} (h0 : Pg.fp0 x.kind = 1) (h1 : ¬ Pg.fp1 x.kind = 1) (ha : 0 ≤ x.a) : Pg.upU x u = fun j => if j = x.a.toNat then true else u j := by
  funext j
  by_cases e : j = x.a.toNat
  · have : (j : Int) = x.a := by omega
    simp [Pg.upU, h0, h1, e]
    omega
  · have : ¬ (j : Int) = x.a := by omega
    simp [Pg.upU, h0, h1, e, this]
theorem Pg.upU_b {x : Pg.Bk} {u : Nat → Bool} (h0 : ¬ Pg.fp0 x.kind = 1) (h1 : Pg.fp1 x.kind = 1) (hb : 0 ≤ x.b) : Pg.upU x u = fun j => if j = x.b.toNat then true else u j := by
  funext j
  by_cases e : j = x.b.toNat
  · simp [Pg.upU, h0, h1, e]
    omega
  · have : ¬ (j : Int) = x.b := by omega
    simp [Pg.upU, h0, h1, e, this]
theorem Pg.upU_ab {x : Pg.Bk} {u : Nat → Bool} (h0 : Pg.fp0 x.kind = 1) (h1 : Pg.fp1 x.kind = 1) (ha : 0 ≤ x.a) (hb : 0 ≤ x.b) : Pg.upU x u = fun j => if j = x.b.toNat then true else if j = x.a.toNat then true else u j := by
  funext j
  by_cases e : j = x.b.toNat
  · have : (j : Int) = x.b := by omega
    simp [Pg.upU, h0, h1, this]
    exact Or.inl e
  · have hx : ¬ (j : Int) = x.b := by omega
    by_cases e2 : j = x.a.toNat
    · have : (j : Int) = x.a := by omega
      simp [Pg.upU, h0, h1, this]
      exact Or.inr (Or.inl e2)
    · have : ¬ (j : Int) = x.a := by omega
      simp [Pg.upU, h0, h1, e, e2, this, hx]
/-- The marks so far: behind none, one or both of the parts. -/
def Pg.upK (x : Pg.Bk) (u : Nat → Bool) (j : Nat) : Nat → Bool := if j = 0 then u else if j = 1 then (if Pg.fp0 x.kind = 1 then fun q => if q = x.a.toNat then true else u q else u) else Pg.upU x u
theorem Pg.upK0 (x : Pg.Bk) (u : Nat → Bool) : Pg.upK x u 0 = u := rfl
theorem Pg.upK1y {x : Pg.Bk} {u : Nat → Bool} (h : Pg.fp0 x.kind = 1) : Pg.upK x u 1 = fun q => if q = x.a.toNat then true else u q := by unfold Pg.upK; simp [h]
theorem Pg.upK1n {x : Pg.Bk} {u : Nat → Bool} (h : ¬ Pg.fp0 x.kind = 1) : Pg.upK x u 1 = u := by unfold Pg.upK; simp [h]
theorem Pg.upK2 (x : Pg.Bk) (u : Nat → Bool) : Pg.upK x u 2 = Pg.upU x u := rfl
theorem Pg.upK2y {x : Pg.Bk} {u : Nat → Bool} (h : Pg.fp1 x.kind = 1) (ha : Pg.fp0 x.kind = 1 → 0 ≤ x.a) (hb : 0 ≤ x.b) : Pg.upK x u 2 = fun q => if q = x.b.toNat then true else Pg.upK x u 1 q := by
  rw [Pg.upK2]
  by_cases h0 : Pg.fp0 x.kind = 1
  · rw [Pg.upU_ab h0 h (ha h0) hb, Pg.upK1y h0]
  · rw [Pg.upU_b h0 h hb, Pg.upK1n h0]
theorem Pg.upK2n {x : Pg.Bk} {u : Nat → Bool} (h : ¬ Pg.fp1 x.kind = 1) (ha : Pg.fp0 x.kind = 1 → 0 ≤ x.a) : Pg.upK x u 2 = Pg.upK x u 1 := by
  rw [Pg.upK2]
  by_cases h0 : Pg.fp0 x.kind = 1
  · rw [Pg.upU_a h0 h (ha h0), Pg.upK1y h0]
  · rw [Pg.upU_no h0 h, Pg.upK1n h0]
/-- What stands while a block's parts are marked. -/
structure MuS (x : Pg.Bk) (fb g N : Nat) (u : Nat → Bool) (w W : World) : Prop where
  row : W.rowIs fb 81 3 (rowN [.string (Pg.fw x.kind), .int .i64 (Pg.fp0 x.kind), .int .i64 (Pg.fp1 x.kind)])
  bo : BoBlk g N u W
  on : Only g w W
theorem bo_ne {g fb N n : Nat} {u : Nat → Bool} {F : Nat → Value} {W : World} (h : W.rowIs fb 81 n F) (k : BoBlk g N u W) : fb ≠ g := by
  rintro rfl
  obtain ⟨c1, h1, _⟩ := h
  obtain ⟨c2, h2, _⟩ := k
  rw [h1] at h2
  simp at h2
theorem MuS.put {x : Pg.Bk} {fb g N : Nat} {u : Nat → Bool} {w W : World} (h : MuS x fb g N u w W) (i : Nat) : MuS x fb g N (fun j => if j = i then true else u j) w (W.setCell ⟨g, i, none⟩ (.bool true)) :=
  ⟨nrow_set h.row (p := ⟨g, i, none⟩) (bo_ne h.row h.bo) _, h.bo.set i true, h.on.set i _⟩
set_option maxRecDepth 100000 in
set_option maxHeartbeats 4000000 in
theorem markUses_any (x : Pg.Bk) (g N c : Nat) (u : Nat → Bool) (w : World) (h : BoBlk g N u w) (ha : Pg.fp0 x.kind = 1 → 0 ≤ x.a ∧ x.a < N) (hb : Pg.fp1 x.kind = 1 → 0 ≤ x.b ∧ x.b < N) :
    Calls Try.prog 34 #[bkV x, .slice (some ⟨g, 0, none⟩) N c] w fun e w' => e = .returned (.tuple #[]) ∧ BoBlk g N (Pg.upU x u) w' ∧ Only g w w' := by
  obtain ⟨W, hW⟩ : ∃ W, W = w.alloc (.cells #[.int .i64 x.kind, .string x.name, .int .i64 x.a, .int .i64 x.b] 56) := ⟨_, rfl⟩
  have R0 : Hid (W.rowIs w.heap.size 56 4 (rowN [.int .i64 x.kind, .string x.name, .int .i64 x.a, .int .i64 x.b])) := by show World.rowIs _ _ _ _ _; rw [hW]; exact rowN_alloc w _ _
  have B0 : Hid (Below w.heap.size w W) := by show Below _ _ _; rw [hW]; exact nbel_alloc _ _
  have HW := Lib.hid hW
  have H := Lib.hid h
  have HA := Lib.hid ha
  have HBB := Lib.hid hb
  clear hW h ha hb
  go_enter Try.func34, Try.ntmps34
  go_wp2_with fail
  rw [← HW.out]
  obtain ⟨⟨c0, c1, c2, c3⟩, _⟩ := rowN4 R0.out
  go_wp2_with fail
  refine (formOf_any x.kind _).mono ?_
  rintro e w1 ⟨rfl, hb⟩
  have R1 := nrow_below R0.out hb
  have B1 : Below w.heap.size w w1 := B0.out.trans (hb.mono B0.out.size)
  obtain ⟨W2, hW2⟩ : ∃ W2, W2 = w1.alloc (.cells #[.string (Pg.fw x.kind), .int .i64 (Pg.fp0 x.kind), .int .i64 (Pg.fp1 x.kind)] 81) := ⟨_, rfl⟩
  have S2 : Hid (W2.rowIs w1.heap.size 81 3 (rowN [.string (Pg.fw x.kind), .int .i64 (Pg.fp0 x.kind), .int .i64 (Pg.fp1 x.kind)]) ∧ Below w.heap.size w W2) := by
    show _ ∧ _
    rw [hW2]; exact ⟨rowN_alloc w1 _ _, B1.alloc B1.size _⟩
  have HW2 := Lib.hid hW2
  clear c0 c1 c2 c3
  obtain ⟨⟨c0, c1, c2, c3⟩, _⟩ := rowN4 R1
  have hlt := R1.lt
  clear hW2 hb R0 B0 R1 B1
  go_wp2_with fail
  rw [← HW2.out]
  refine (values_any x _).mono ?_
  rintro e w2 ⟨rfl, hb⟩
  have S3 : Hid (MuS x w1.heap.size g N (Pg.upK x u 0) w w2) := by
    have hB2 : Below w.heap.size w w2 := S2.out.2.trans (hb.mono S2.out.2.size)
    exact ⟨nrow_below S2.out.1 hb, H.out.below hB2, Only.of_below hB2⟩
  clear hb S2 c0 c1 c2 c3 hlt
  go_wp2_with fail
  go_loopw [12] (fun jv wr => ∃ (j : Nat), j ≤ 2 ∧ jv = .int .i64 j ∧ Hid (MuS x w1.heap.size g N (Pg.upK x u j) w wr)) (fun jv _ => 2 - (intOf jv).toNat)
  case atStart => exact ⟨0, by omega, rfl, S3⟩
  case round =>
    obtain ⟨j, hj, rfl, hS⟩ := hrel
    clear S3
    have : j = 0 ∨ j = 1 ∨ j = 2 := by omega
    obtain ⟨⟨c0, c1, c2⟩, _⟩ := rowN3 hS.out.row
    have x0 := pidx0 x.a x.b
    have x1 := pidx1 x.a x.b
    rcases this with rfl | rfl | rfl
    · by_cases k : Pg.fp0 x.kind = 1
      · have k' : (Pg.fp0 x.kind == 1) = true := by simp [k]
        obtain ⟨q1, q2⟩ := HA.out k
        obtain ⟨a, ha⟩ : ∃ a : Nat, (a : Int) = x.a := ⟨x.a.toNat, by omega⟩
        have hz1 : (a : Int) < (N : Int) := by omega
        have hz2 : a < N := by omega
        have cc := hS.out.bo.at_ hz2
        have cf := hS.out.bo.fr a
        have cl := hS.out.bo.lt'
        have S4 : Hid (MuS x w1.heap.size g N (Pg.upK x u 1) w (wr.setCell ⟨g, a, none⟩ (.bool true))) := by
          have := hS.out.put a
          rw [Pg.upK0] at this
          rw [Pg.upK1y k, show x.a.toNat = a by omega]
          exact this
        have HAX := Lib.hid ha
        rw [← ha] at x0 x1 ⊢
        clear k q1 q2 hS ha
        go_wp2_with fail
        go_roundw
        case rel => exact ⟨1, by omega, by go_num, S4⟩
        case measure => simp [intOf]
      · have k' : (Pg.fp0 x.kind == 1) = false := by simp [k]
        have S4 : Hid (MuS x w1.heap.size g N (Pg.upK x u 1) w wr) := by
          have := hS.out
          rw [Pg.upK0] at this
          show MuS _ _ _ _ _ _ _
          rw [Pg.upK1n k]; exact this
        clear k hS
        go_wp2_with fail
        go_roundw
        case rel => exact ⟨1, by omega, by go_num, S4⟩
        case measure => simp [intOf]
    · by_cases k : Pg.fp1 x.kind = 1
      · have k' : (Pg.fp1 x.kind == 1) = true := by simp [k]
        obtain ⟨q1, q2⟩ := HBB.out k
        obtain ⟨a, ha⟩ : ∃ a : Nat, (a : Int) = x.b := ⟨x.b.toNat, by omega⟩
        have hz1 : (a : Int) < (N : Int) := by omega
        have hz2 : a < N := by omega
        have cc := hS.out.bo.at_ hz2
        have cf := hS.out.bo.fr a
        have cl := hS.out.bo.lt'
        have S4 : Hid (MuS x w1.heap.size g N (Pg.upK x u 2) w (wr.setCell ⟨g, a, none⟩ (.bool true))) := by
          have := hS.out.put a
          rw [Pg.upK2y k (fun h => (HA.out h).1) q1, show x.b.toNat = a by omega]
          exact this
        rw [← ha] at x0 x1 ⊢
        clear k q1 q2 hS ha
        go_wp2_with fail
        go_roundw
        case rel => exact ⟨2, by omega, by go_num, S4⟩
        case measure => simp [intOf]
      · have k' : (Pg.fp1 x.kind == 1) = false := by simp [k]
        have S4 : Hid (MuS x w1.heap.size g N (Pg.upK x u 2) w wr) := by
          show MuS _ _ _ _ _ _ _
          rw [Pg.upK2n k (fun h => (HA.out h).1)]; exact hS.out
        clear k hS
        go_wp2_with fail
        go_roundw
        case rel => exact ⟨2, by omega, by go_num, S4⟩
        case measure => simp [intOf]
    · go_wp2_with fail
      exact bodyPost_end (v := .tuple #[]) (by simp [results, Try.results34, go_sem]) rfl ⟨rfl, hS.out.bo, hS.out.on⟩
/-- The marked places. -/
def Pg.mkL (u : Nat → Bool) (i : Nat) : List Nat := (List.range i).filter (fun j => u j)
theorem Pg.mkL_yes {u : Nat → Bool} {i : Nat} (h : u i = true) : Pg.mkL u (i + 1) = Pg.mkL u i ++ [i] := by unfold Pg.mkL; rw [List.range_succ, List.filter_append]; simp only [List.filter_cons, h, List.filter_nil]; simp
theorem Pg.mkL_no {u : Nat → Bool} {i : Nat} (h : u i = false) : Pg.mkL u (i + 1) = Pg.mkL u i := by unfold Pg.mkL; rw [List.range_succ, List.filter_append]; simp only [List.filter_cons, h, List.filter_nil]; simp
theorem Pg.mkL_len (u : Nat → Bool) (i : Nat) : (Pg.mkL u i).length ≤ i := Nat.le_trans (List.length_filter_le _ _) (by simp)
set_option maxRecDepth 100000 in
set_option maxHeartbeats 4000000 in
theorem marked_any (g N c : Nat) (u : Nat → Bool) (w : World) (h : BoBlk g N u w) (hN : N ≤ 1048576) :
    Calls Try.prog 35 #[.slice (some ⟨g, 0, none⟩) N c] w fun e w' => (∃ v, e = .returned v ∧ w'.ownsRow w.heap.size 2 1 v (Pg.mkL u N).length (ugV (Pg.mkL u N))) ∧ Below w.heap.size w w' := by
  obtain ⟨i1, hi1, hy0, hy1, hy2⟩ := info_parts uginfo
  have H := Lib.hid h
  clear h
  have HO0 : Hid (w.ownsRow w.heap.size 2 1 (.slice none 0 0) (Pg.mkL u 0).length (ugV (Pg.mkL u 0))) := World.ownsRow_nil _ _ _ _
  go_enter Try.func35, Try.ntmps35
  go_wp2_with fail
  go_loopw [3, 8] (fun dv iv wr => ∃ (i : Nat), i ≤ N ∧ iv = .int .i64 i ∧ Hid (wr.ownsRow w.heap.size 2 1 dv (Pg.mkL u i).length (ugV (Pg.mkL u i))) ∧ Hid (Below w.heap.size w wr)) (fun _ iv _ => N - (intOf iv).toNat)
  case atStart => exact ⟨0, Nat.zero_le _, rfl, HO0, Below.refl _ _⟩
  case round =>
    obtain ⟨i, hi, rfl, hO, hB⟩ := hrel
    clear HO0
    by_cases hlt : i < N
    · have hltz : (i : Int) < (N : Int) := by omega
      have cn := (H.out.below hB.out).at_ hlt
      cases hu : u i with
      | true =>
        have HSTEP := Lib.hid (Pg.mkL_yes hu)
        have hll := Pg.mkL_len u i
        have hsz := hB.out.size
        rw [hu] at cn
        clear hu
        go_wp2_with (at_builtin; refine wpList_append_own _ rfl _ _ 23 rfl w.heap.size 2 i1 _ 1 8 Try.underlying23 hi1 hy0 hy1 hy2 rfl (by decide) _ _ _ rfl (hO.out.alloc _) ⟨wr.heap.size, 0, none⟩ 1 1 [.int .i64 (i : Nat)] rfl rfl ?d1 ?d2 ?d3 ?d4 ?d5 ?_)
        case d1 =>
          intro q x hq
          match q, hq with
          | 0, hq =>
            simp at hq
            subst hq
            exact (rowN_alloc wr [.int .i64 (i : Nat)] 2).cell (i := 0) (by simp)
        case d2 =>
          intro x hx
          simp at hx
          subst hx
          rfl
        case d3 => unfold maxLen; omega
        case d4 => omega
        case d5 => simp; omega
        intro v5 W5 hown hgrow hnil
        have HB5 : Hid (Below w.heap.size w W5) := (hB.out.alloc hB.out.size _).grown hgrow (by simp; omega) (fun k e => (hO.out.lt k e).1)
        have HO5 : Hid (W5.ownsRow w.heap.size 2 1 v5 (Pg.mkL u (i + 1)).length (ugV (Pg.mkL u (i + 1)))) := by
          show World.ownsRow _ _ _ _ _ _ _
          rw [HSTEP.out, List.length_append, ugV_app]
          exact hown
        clear hown hgrow hnil hO hB cn
        go_wp2_with fail
        go_roundw
        case rel => exact ⟨i + 1, by omega, by go_num, HO5, HB5⟩
        case measure => simp [intOf]; omega
      | false =>
        have HSTEP := Lib.hid (Pg.mkL_no hu)
        rw [hu] at cn
        clear hu
        go_wp2_with fail
        go_roundw
        case rel => exact ⟨i + 1, by omega, by go_num, by rw [HSTEP.out]; exact hO, hB⟩
        case measure => simp [intOf]; omega
    · obtain rfl : i = N := by omega
      go_wp2_with fail
      go_ret
      exact ⟨⟨_, rfl, hO.out⟩, hB.out⟩
/-- What stands while the marks spread. -/
structure UsS (p : Pg.Prog) (la : Option Addr) (lk : Nat) (fa : Option Addr) (fk : Nat) (wa : Option Addr) (wk : Nat) (g N : Nat) (u : Nat → Bool) (w W : World) : Prop where
  box : W.rowIs w.heap.size 32 3 (rowN (pgL p la lk fa fk wa wk))
  bo : BoBlk g N u W
  lo : w.heap.size < g
  old : Below w.heap.size w W
theorem UsS.below {p : Pg.Prog} {la : Option Addr} {lk : Nat} {fa : Option Addr} {fk : Nat} {wa : Option Addr} {wk g N : Nat} {u : Nat → Bool} {w W W' : World} (h : UsS p la lk fa fk wa wk g N u w W) (hb : Below W.heap.size W W') : UsS p la lk fa fk wa wk g N u w W' := ⟨nrow_below h.box hb, h.bo.below hb, h.lo, h.old.trans (hb.mono h.old.size)⟩
theorem UsS.only {p : Pg.Prog} {la : Option Addr} {lk : Nat} {fa : Option Addr} {fk : Nat} {wa : Option Addr} {wk g N : Nat} {u v : Nat → Bool} {w W W' : World} (h : UsS p la lk fa fk wa wk g N u w W) (hv : BoBlk g N v W') (ho : Only g W W') : UsS p la lk fa fk wa wk g N v w W' :=
  ⟨h.box.of_block (ho.block _ h.box.lt (by have := h.lo; omega)), hv, h.lo, h.old.trans (ho.below (by have := h.lo; omega) h.old.size)⟩
theorem Pg.runU_yes {B : Nat → Pg.Bk} {n k : Nat} (h : Pg.runU B n k (n - 1 - k) = true) : Pg.runU B n (k + 1) = Pg.upU (B (n - 1 - k)) (Pg.runU B n k) := by
  rw [Pg.runU]; simp [h]
theorem Pg.runU_no {B : Nat → Pg.Bk} {n k : Nat} (h : Pg.runU B n k (n - 1 - k) = false) : Pg.runU B n (k + 1) = Pg.runU B n k := by
  rw [Pg.runU]; simp [h]
/-- A list of places as an answer. -/
def UgEnd (l : List Nat) (w : World) (e : Ending) (w' : World) : Prop := ∃ v, e = .returned v ∧ w'.ownsRow w.heap.size 2 1 v l.length (ugV l)
set_option maxRecDepth 100000 in
set_option maxHeartbeats 4000000 in
theorem implUses_any (p : Pg.Prog) (la : Option Addr) (lk : Nat) (fa : Option Addr) (fk : Nat) (wa : Option Addr) (wk : Nat) (z : Int) (w : World) (h : PgAt p la fa wa w) (hs : PgSmall p) :
    Calls Try.prog 14 #[pgV p la lk fa fk wa wk, .int .i64 z] w fun e w' => UgEnd (Pg.uses p z) w e w' ∧ Below w.heap.size w w' := by
  obtain ⟨W, hW⟩ : ∃ W, W = w.alloc (.cells #[.slice la p.bn lk, .slice fa p.on fk, .slice wa p.nn wk] 32) := ⟨_, rfl⟩
  have S0 : SpB p la lk fa fk wa wk w W := by rw [hW]; exact ⟨rowN_alloc w _ _, nbel_alloc _ _⟩
  have H := Lib.hid h
  have HS := Lib.hid hs
  have hb1 : p.bn ≤ 1048576 := hs.1.1
  have HW := Lib.hid hW
  have HS0 := Lib.hid S0
  clear h hs hW S0
  go_enter Try.func14, Try.ntmps14
  go_wp2_with fail
  rw [← HW.out]
  refine (implPRight_any p la lk fa fk wa wk _ (H.out.below HS0.out.old) HS.out).mono ?_
  rintro e w1 ⟨rfl, hb⟩
  have S1 := Lib.hid (HS0.out.below hb)
  clear hb HS0
  by_cases k : Pg.Right p
  · rw [dB_tt k]
    obtain ⟨⟨x0, x1, x2⟩, _⟩ := rowN3 S1.out.box
    have HR := Lib.hid k
    clear k
    go_wp2_with fail
    refine (gwithin_any z ((p.bn : Int) - 1) _).mono ?_
    rintro e w2 ⟨rfl, hw2⟩
    rw [hw2]
    clear hw2 w2
    by_cases kz : 0 ≤ z ∧ z ≤ (p.bn : Int) - 1
    · rw [dB_tt kz]
      obtain ⟨n, hn⟩ : ∃ n : Nat, (n : Int) = z := ⟨z.toNat, by omega⟩
      have hnb : n < p.bn := by omega
      have HE : Hid (Pg.uses p z = Pg.mkL (Pg.runU p.B n n) n) := by show _ = _; rw [← hn]; exact Pg.uses_yes HR.out hnb
      subst hn
      have hnz : (n : Int) < (p.bn : Int) := by omega
      have hmk := run_make_row' (P := Try.prog) 57 4 (.bool false) 1 Try.underlying57 boinfo rfl .i64 .i64 n (by omega) (by omega)
      obtain ⟨b, eb, c0, c1, c2, c3⟩ := (H.out.l.below S1.out.old).at_ hnb
      subst eb
      have hbl : b < w1.heap.size := World.block_lt_of_cell? _ _ c0
      have hxl := S1.out.box.lt
      obtain ⟨V, hV⟩ : ∃ V, V = w1.alloc (.cells (madeCells #[.bool false] n) 4) := ⟨_, rfl⟩
      have S2 : Hid (UsS p (some ⟨b, 0, none⟩) lk fa fk wa wk w1.heap.size n (fun _ => false) w V) := by
        show UsS _ _ _ _ _ _ _ _ _ _ _ _
        rw [hV]
        exact ⟨nrow_below S1.out.box (nbel_alloc _ _), World.rowIs_made w1 (.bool false) n 4, S1.out.box.lt, S1.out.old.alloc S1.out.old.size _⟩
      have HV := Lib.hid hV
      clear kz hV S1
      go_wp2_with fail
      rw [← HV.out]
      refine (markUses_any (p.B n) w1.heap.size n n (fun _ => false) _ S2.out.bo (fun q => Pg.right_a HR.out hnb q) (fun q => Pg.right_b HR.out hnb q)).mono ?_
      rintro e w2 ⟨rfl, hv, ho⟩
      have S3 : Hid (UsS p (some ⟨b, 0, none⟩) lk fa fk wa wk w1.heap.size n (Pg.runU p.B n 0) w w2) := S2.out.only hv ho
      clear hv ho S2 x0 x1 x2 c0 c1 c2 c3 hbl hxl hmk HV
      go_wp2_with fail
      go_loopw [6] (fun iv wr => ∃ (k : Nat), k ≤ n ∧ iv = .int .i64 ((n : Int) - 1 - k) ∧ Hid (UsS p (some ⟨b, 0, none⟩) lk fa fk wa wk w1.heap.size n (Pg.runU p.B n k) w wr)) (fun iv _ => (intOf iv + 1).toNat)
      case atStart => exact ⟨0, Nat.zero_le _, by simp, S3⟩
      case round =>
        obtain ⟨k, hk, rfl, hS⟩ := hrel
        clear S3
        by_cases hlt : k < n
        · obtain ⟨m, hm⟩ : ∃ m : Nat, m = n - 1 - k := ⟨_, rfl⟩
          have em : ((n : Int) - 1 - k) = (m : Int) := by omega
          have hmn : m < n := by omega
          have hmnz : (m : Int) < (n : Int) := by omega
          have hmb : m < p.bn := by omega
          have hmbz : (m : Int) < (p.bn : Int) := by omega
          have HM : Hid (n - 1 - k = m) := hm.symm
          have HEM : Hid ((m : Int) = (n : Int) - 1 - k) := em.symm
          rw [em]
          have cn := hS.out.bo.at_ hmn
          clear hm em
          cases hu : Pg.runU p.B n k m with
          | true =>
            have HST : Hid (Pg.runU p.B n (k + 1) = Pg.upU (p.B m) (Pg.runU p.B n k)) := by
              have := Pg.runU_yes (B := p.B) (n := n) (k := k) (by rw [HM.out]; exact hu)
              rw [HM.out] at this; exact this
            rw [hu] at cn
            clear hu
            obtain ⟨⟨x0, x1, x2⟩, _⟩ := rowN3 hS.out.box
            obtain ⟨b', eb, c0, c1, c2, c3⟩ := (H.out.l.below hS.out.old).at_ hmb
            obtain rfl : b' = b := by simpa using eb.symm
            clear eb
            go_wp2_with fail
            refine (markUses_any (p.B m) w1.heap.size n n (Pg.runU p.B n k) _ hS.out.bo (fun q => by have := Pg.right_a HR.out hmb q; omega) (fun q => by have := Pg.right_b HR.out hmb q; omega)).mono ?_
            rintro e w3 ⟨rfl, hv, ho⟩
            have S4 : Hid (UsS p (some ⟨b', 0, none⟩) lk fa fk wa wk w1.heap.size n (Pg.runU p.B n (k + 1)) w w3) := by
              show UsS _ _ _ _ _ _ _ _ _ _ _ _
              rw [HST.out]; exact hS.out.only hv ho
            clear hv ho hS x0 x1 x2 c0 c1 c2 c3 cn
            go_wp2_with fail
            go_roundw
            case rel => exact ⟨k + 1, by omega, by have := HEM.out; congr 1; omega, S4⟩
            case measure => have := HEM.out; simp [intOf] <;> omega
          | false =>
            have HST : Hid (Pg.runU p.B n (k + 1) = Pg.runU p.B n k) := Pg.runU_no (by rw [HM.out]; exact hu)
            rw [hu] at cn
            clear hu
            go_wp2_with fail
            go_roundw
            case rel => exact ⟨k + 1, by omega, by have := HEM.out; congr 1; omega, by rw [HST.out]; exact hS⟩
            case measure => have := HEM.out; simp [intOf] <;> omega
        · obtain rfl : k = n := by omega
          have e1 : ((k : Int) - 1 - k) = -1 := by omega
          rw [e1]
          clear e1
          go_wp2_with fail
          refine (marked_any w1.heap.size k k (Pg.runU p.B k k) _ hS.out.bo (by omega)).mono ?_
          rintro e w4 ⟨⟨v, rfl, hv⟩, hb⟩
          have HB : Hid (Below w.heap.size w w4) := hS.out.old.trans (hb.mono hS.out.old.size)
          have HU : Hid (w4.ownsRow w.heap.size 2 1 v (Pg.uses p k).length (ugV (Pg.uses p k))) := by
            show World.ownsRow _ _ _ _ _ _ _
            rw [HE.out]; exact ug_low hv hS.out.old.size
          clear hv hb
          go_wp2_with fail
          go_ret
          exact ⟨⟨_, rfl, HU.out⟩, HB.out⟩
    · rw [dB_ff kz]
      have HE : Hid (Pg.uses p z = []) := Pg.uses_no (fun q => kz ⟨q.2.1, by have := q.2.2; omega⟩)
      have HU : Hid (w1.ownsRow w.heap.size 2 1 (.slice none 0 0) (Pg.uses p z).length (ugV (Pg.uses p z))) := by
        show World.ownsRow _ _ _ _ _ _ _
        rw [HE.out]; exact World.ownsRow_nil _ _ _ _
      clear kz
      go_wp2_with fail
      go_ret
      exact ⟨⟨_, rfl, HU.out⟩, S1.out.old⟩
  · rw [dB_ff k]
    have HE : Hid (Pg.uses p z = []) := Pg.uses_no (fun q => k q.1)
    have HU : Hid (w1.ownsRow w.heap.size 2 1 (.slice none 0 0) (Pg.uses p z).length (ugV (Pg.uses p z))) := by
      show World.ownsRow _ _ _ _ _ _ _
      rw [HE.out]; exact World.ownsRow_nil _ _ _ _
    clear k
    go_wp2_with fail
    go_ret
    exact ⟨⟨_, rfl, HU.out⟩, S1.out.old⟩
end Go.Proofs.Ytiaeobocenanlaa
