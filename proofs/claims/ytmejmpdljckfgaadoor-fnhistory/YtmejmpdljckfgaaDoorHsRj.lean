/-
  The program's reading of a history: points out of numbers; PointsRead.
-/
import Derived.Test.YtmejmpdljckfgaaDoorHsRi
import Derived.Test.YtmejmpdljckfgaaDoorRegL
import Derived.Test.YtmejmpdljckfgaaDoorAsC
import Derived.Test.YtmejmpdljckfgaaDoorEt
import Derived.Test.YtmejmpdljckfgaaDoorErr
namespace Go.Proofs.YtmejmpdljckfgaaDoor
open Go.RowKit Go.Deep

/-- Numbers as they lie in memory. -/
def IsU (a : Option Addr) (l : List Nat) (W : World) : Prop := l = [] ∨ ∃ g, a = some ⟨g, 0, none⟩ ∧ ∀ j (hj : j < l.length), W.cell? ⟨g, j, none⟩ = some (.int .u64 ((l[j]'hj : Nat) : Int))
theorem IsU.below {a : Option Addr} {l : List Nat} {W W' : World} (h : IsU a l W) (hb : Below W.heap.size W W') : IsU a l W' := by
  rcases h with h | ⟨g, e, h⟩
  · exact Or.inl h
  · exact Or.inr ⟨g, e, fun j hj => (hb.cell (World.block_lt_of_cell? _ _ (h j hj))).trans (h j hj)⟩
theorem IsU.set {a : Option Addr} {l : List Nat} {W : World} {g : Nat} (h : IsU a l W) (hg : ∀ o, a = some o → l ≠ [] → o.block ≠ g) (i : Nat) (v : Value) : IsU a l (W.setCell ⟨g, i, none⟩ v) := by
  rcases h with h | ⟨q, e, h⟩
  · exact Or.inl h
  · by_cases h0 : l = []
    · exact Or.inl h0
    · refine Or.inr ⟨q, e, fun j hj => ?_⟩
      have hb : (W.setCell ⟨g, i, none⟩ v).heap[q]? = W.heap[q]? := Below.heap_setCell _ _ _ _ (hg _ e h0)
      have hc := h j hj
      unfold World.cell? at hc ⊢
      rw [hb]
      exact hc
theorem IsU.grown {a : Option Addr} {l : List Nat} {W W' : World} {row : Option Nat} {B : Nat} (h : IsU a l W) (hg : W.grownBy W' row) (hr : ∀ k, row = some k → B ≤ k) (hl : ∀ o, a = some o → l ≠ [] → o.block < B) : IsU a l W' := by
  rcases h with h | ⟨q, e, h⟩
  · exact Or.inl h
  · by_cases h0 : l = []
    · exact Or.inl h0
    · refine Or.inr ⟨q, e, fun j hj => ?_⟩
      have hq := hl _ e h0
      have hc := h j hj
      have hlt := World.block_lt_of_cell? _ _ hc
      have hb := hg.block q hlt (fun e' => by have := hr q e'.symm; have hq' : q < B := hq; omega)
      unfold World.cell? at hc ⊢
      rw [hb]
      exact hc
theorem IsU.at_ {g : Nat} {l : List Nat} {W : World} (h : IsU (some ⟨g, 0, none⟩) l W) {j : Nat} (hj : j < l.length) : W.cell? ⟨g, j, none⟩ = some (.int .u64 ((l[j]'hj : Nat) : Int)) ∧ True := by
  rcases h with h | ⟨q, e, h⟩
  · subst h; simp at hj
  · cases e; exact ⟨h j hj, trivial⟩
/-- Points that grow beside one in the making. -/
structure BqS (w : World) (v : Value) (L : List Ln.Nt) (x y : Int) (W : World) : Prop where
  row : W.rowIs w.heap.size 104 2 (rowN [.int .i64 x, .int .i64 y])
  own : W.ownsRow (w.heap.size + 1) 104 2 v L.length (nvs L)
  bel : Below w.heap.size w W
theorem BqS.below {w : World} {v : Value} {L : List Ln.Nt} {x y : Int} {W W' : World} (h : BqS w v L x y W) (hb : Below W.heap.size W W') : BqS w v L x y W' :=
  ⟨nrow_below h.row hb, hown_keep h.own (fun k _ hk => hb.block k hk), h.bel.trans (hb.mono h.bel.size)⟩
theorem BqS.keep {w : World} {v : Value} {L : List Ln.Nt} {x y : Int} {W : World} (h : BqS w v L x y W) (i : Nat) (u : Value) : (W.setCell ⟨w.heap.size, i, none⟩ u).ownsRow (w.heap.size + 1) 104 2 v L.length (nvs L) :=
  hown_keep h.own (fun k e _ => Below.heap_setCell _ _ _ _ (fun e' => by have := (World.ownsRow.lt h.own k e).1; have e2 : k = w.heap.size := e'; omega))
theorem BqS.set0 {w : World} {v : Value} {L : List Ln.Nt} {x y : Int} {W : World} (h : BqS w v L x y W) (z : Int) : BqS w v L z y (W.setCell ⟨w.heap.size, 0, none⟩ (.int .i64 z)) :=
  ⟨rowN_put h.row 0 _ (by simp), h.keep 0 _, h.bel.setCell (p := ⟨w.heap.size, 0, none⟩) (Nat.le_refl _) _⟩
theorem BqS.set1 {w : World} {v : Value} {L : List Ln.Nt} {x y : Int} {W : World} (h : BqS w v L x y W) (z : Int) : BqS w v L x z (W.setCell ⟨w.heap.size, 1, none⟩ (.int .i64 z)) :=
  ⟨rowN_put h.row 1 _ (by simp), h.keep 1 _, h.bel.setCell (p := ⟨w.heap.size, 1, none⟩) (Nat.le_refl _) _⟩
theorem BqS.push {w : World} {v v' : Value} {L : List Ln.Nt} {x y p q : Int} {W W' : World} (h : BqS w v L x y W) (hown : W'.ownsRow (w.heap.size + 1) 104 2 v' (L ++ [(p, q)]).length (nvs (L ++ [(p, q)]))) (hg : W.grownBy W' v.ownBlock) : BqS w v' (L ++ [(p, q)]) x y W' :=
  ⟨h.row.of_block (hg.block _ h.row.lt (fun e => by have := (World.ownsRow.lt h.own _ e.symm).1; omega)), hown, h.bel.grown hg h.bel.size (fun k e => Nat.le_of_succ_le (World.ownsRow.lt h.own k e).1)⟩
set_option maxRecDepth 100000 in
set_option maxHeartbeats 8000000 in
theorem ptsBy_any (a : Option Addr) (k : Nat) (l : List Nat) (w : World) (hc : IsU a l w) (hn : l.length ≤ 20000) (hl : ∀ x ∈ l, x < 18446744073709551616) :
    Calls Tryd.prog 80 #[.slice a l.length k] w fun e w' => (∃ v, e = .returned v ∧ w'.ownsRow w.heap.size 104 2 v (Hs.pts 0 0 l).length (nvs (Hs.pts 0 0 l))) ∧ (Hs.pts 0 0 l).length ≤ 20000 ∧ Below w.heap.size w w' := by
  obtain ⟨i0, hi0, hz0, hz1, hz2⟩ := info_parts hinfo_pt
  obtain ⟨N, hN⟩ : ∃ N, N = l.length := ⟨_, rfl⟩
  have HNN := Lib.hid hN
  have hN2 : N ≤ 20000 := by omega
  have HLO : Hid (∀ o, a = some o → l ≠ [] → o.block ≠ w.heap.size) := fun o e h0 => by
    rcases hc with h | ⟨g, e', h⟩
    · exact absurd h h0
    · rw [e'] at e
      cases e
      have := World.block_lt_of_cell? _ _ (h 0 (by have := List.length_pos_iff.2 h0; omega))
      intro e2
      have e3 : g = w.heap.size := e2
      have h4 : g < w.heap.size := this
      omega
  have HLT : Hid (∀ o, a = some o → l ≠ [] → o.block < w.heap.size + 1) := fun o e h0 => by
    rcases hc with h | ⟨g, e', h⟩
    · exact absurd h h0
    · rw [e'] at e
      cases e
      have := World.block_lt_of_cell? _ _ (h 0 (by have := List.length_pos_iff.2 h0; omega))
      have h4 : g < w.heap.size := this
      show g < _
      omega
  rw [← hN]
  obtain ⟨W, hW⟩ : ∃ W, W = w.alloc (.cells #[.int .i64 0, .int .i64 0] 104) := ⟨_, rfl⟩
  have HS0 : Hid (BqS w (.slice none 0 0) [] 0 0 W) := by
    show BqS _ _ _ _ _ _
    rw [hW]
    exact ⟨rowN_alloc w [.int .i64 0, .int .i64 0] _, World.ownsRow_nil _ _ _ _, nbel_alloc _ _⟩
  have HC0 : Hid (IsU a l W) := by show IsU _ _ _; rw [hW]; exact hc.below (nbel_alloc _ _)
  have HW := Lib.hid hW
  have HL := Lib.hid hl
  clear hW hc hl hN hn
  go_enter Tryd.func80, Tryd.ntmps80
  go_wp2_with fail
  rw [← HW.out]
  clear HW
  go_loopw [3, 5] (fun lv iv wr => ∃ (i : Nat) (L : List Ln.Nt) (x y : Int), 2 * i ≤ N ∧ L.length ≤ i ∧ iv = .int .i64 ((2 * i + 1 : Nat) : Int) ∧ Hid (BqS w lv L x y wr) ∧ Hid (IsU a l wr) ∧ Hid (Hs.pts 0 0 l = L ++ Hs.pts x y (l.drop (2 * i)))) (fun _ iv _ => N + 1 - (intOf iv).toNat)
  case atStart => exact ⟨0, [], 0, 0, Nat.zero_le _, Nat.le_refl _, rfl, HS0, HC0, rfl⟩
  case round =>
    obtain ⟨i, L, x, y, hi, hLi, rfl, hS, hC, hPT⟩ := hrel
    clear HS0 HC0
    by_cases hlt : 2 * i + 1 < N
    · obtain ⟨z1, hz1e⟩ : ∃ z : Int, z = ((2 * i + 1 : Nat) : Int) := ⟨_, rfl⟩
      obtain ⟨z0, hz0e⟩ : ∃ z : Int, z = ((2 * i : Nat) : Int) := ⟨_, rfl⟩
      have hlen : 2 * i + 1 < l.length := by rw [← HNN.out]; exact hlt
      have hne : l ≠ [] := fun e => by rw [e] at hlen; simp at hlen
      obtain ⟨g, rfl⟩ : ∃ g, a = some ⟨g, 0, none⟩ := by
        rcases hC.out with h | ⟨g, e, _⟩
        · exact absurd h hne
        · exact ⟨g, e⟩
      obtain ⟨c0, _⟩ := hC.out.at_ (j := 2 * i) (by omega)
      obtain ⟨c1, _⟩ := hC.out.at_ (j := 2 * i + 1) hlen
      have hn0 : l[2 * i]'(by omega) < 18446744073709551616 := HL.out _ (List.getElem_mem _)
      have hn1 : l[2 * i + 1]'hlen < 18446744073709551616 := HL.out _ (List.getElem_mem _)
      have HPT2 := hPT.out
      rw [Hs.pts_two x y l (2 * i) hlen] at HPT2
      obtain ⟨n0, hn0e⟩ : ∃ n, n = l[2 * i]'(by omega) := ⟨_, rfl⟩
      obtain ⟨n1, hn1e⟩ : ∃ n, n = l[2 * i + 1]'hlen := ⟨_, rfl⟩
      rw [← hn0e] at c0 hn0 HPT2
      rw [← hn1e] at c1 hn1 HPT2
      obtain ⟨m0, hm0⟩ : ∃ m, m = IntKind.i64.wrap (n0 : Int) := ⟨_, rfl⟩
      obtain ⟨m1, hm1⟩ : ∃ m, m = Hs.unf n1 := ⟨_, rfl⟩
      rw [← hm0, ← hm1] at HPT2
      obtain ⟨x2, hx2⟩ : ∃ m, m = IntKind.i64.wrap (x + m0) := ⟨_, rfl⟩
      obtain ⟨y2, hy2⟩ : ∃ m, m = IntKind.i64.wrap (y + m1) := ⟨_, rfl⟩
      rw [← hx2, ← hy2, show 2 * i + 2 = 2 * (i + 1) by omega] at HPT2
      replace HPT2 : Hid (Hs.pts 0 0 l = (L ++ [(x2, y2)]) ++ Hs.pts x2 y2 (l.drop (2 * (i + 1)))) := by show _ = _; rw [HPT2]; simp
      have q0 : IntKind.i64.wrap (n0 : Int) = m0 := hm0.symm
      have q1 : IntKind.i64.wrap (x + m0) = x2 := hx2.symm
      have q2 : IntKind.i64.wrap (y + m1) = y2 := hy2.symm
      have HM1 : Hid (Hs.unf n1 = m1) := hm1.symm
      have hzz : IntKind.i64.wrap (z1 - 1) = z0 := by rw [hz1e, hz0e]; rw [Hs.wrapid (by omega) (by omega)]; omega
      have hzz2 : z1 - 1 = z0 := by omega
      have hzz3 : IntKind.i64.wrap z0 = z0 := Hs.wrapid (by omega) (by omega)
      have hza : z0.toNat = 2 * i := by omega
      have hzb : z1.toNat = 2 * i + 1 := by omega
      have hzc : ¬ z0 < 0 := by omega
      have hzd : ¬ z1 < 0 := by omega
      have hze : z0 < (N : Int) := by omega
      have hzf : z1 < (N : Int) := by omega
      have HZ1 : Hid (z1 + 2 = ((2 * (i + 1) + 1 : Nat) : Int)) := by show _ = _; omega
      have hzg : IntKind.i64.wrap (z1 + 2) = z1 + 2 := Hs.wrapid (by omega) (by omega)
      rw [← hz1e]
      have HZ1E := Lib.hid hz1e
      have HN1E := Lib.hid hn1e
      clear hz1e hn0e hn1e hm0 hm1 hx2 hy2 hz0e hne
      go_wp2_with fail
      refine region_L (S := fun V => V.rowIs w.heap.size 104 2 (rowN [.int .i64 x, .int .i64 y]) ∧ V.cell? ⟨g, 2 * i, none⟩ = some (.int .u64 (n0 : Nat))) 10 (by kernel_rfl) ⟨hS.out.row.of_block rfl, c0⟩ (fun hHeld => ?_)
      obtain ⟨D, hD⟩ : ∃ D, D = wr.drew := ⟨_, rfl⟩
      rw [← hD] at hHeld ⊢
      have HSD : Hid (BqS w u3 L x y D) := by show BqS _ _ _ _ _ _; rw [hD]; exact hS.out.below (Below.refl _ _).drew
      have HCD : Hid (IsU (some ⟨g, 0, none⟩) l D) := by show IsU _ _ _; rw [hD]; exact hC.out.below (Below.refl _ _).drew
      clear hD c0 c1
      refine takeL_do (i := 0) (v := (.pointer (some ⟨w.heap.size, 0, none⟩))) rfl (by kernel_rfl) (by kernel_rfl) (by kernel_rfl) (by kernel_rfl) (fun _ _ _ h => h) (by rfl) ?_ (by assumption) ?_
      · intro w hSw
        go_simp
      simp only [Act.put, List.setIfInBounds_toArray, List.set_cons_zero, List.set_cons_succ]
      refine takeL_do (i := 1) (v := (.int .i64 x)) rfl (by kernel_rfl) (by kernel_rfl) (by kernel_rfl) (by kernel_rfl) (fun _ _ _ h => h) (by rfl) ?_ (by assumption) ?_
      · intro w hSw
        obtain ⟨⟨p0, p1⟩, _⟩ := rowN2 hSw.1
        go_simp
      simp only [Act.put, List.setIfInBounds_toArray, List.set_cons_zero, List.set_cons_succ]
      refine takeL_do (i := 2) (v := (.slice (some ⟨g, 0, none⟩) N k)) rfl (by kernel_rfl) (by kernel_rfl) (by kernel_rfl) (by kernel_rfl) (fun _ _ _ h => h) (by rfl) ?_ (by assumption) ?_
      · intro w hSw
        go_simp
      simp only [Act.put, List.setIfInBounds_toArray, List.set_cons_zero, List.set_cons_succ]
      refine takeL_do (i := 3) (v := (.int .i64 z1)) rfl (by kernel_rfl) (by kernel_rfl) (by kernel_rfl) (by kernel_rfl) (fun _ _ _ h => h) (by rfl) ?_ (by assumption) ?_
      · intro w hSw
        go_simp
      simp only [Act.put, List.setIfInBounds_toArray, List.set_cons_zero, List.set_cons_succ]
      refine takeL_do (i := 4) (v := (.int .i64 z0)) rfl (by kernel_rfl) (by kernel_rfl) (by kernel_rfl) (by kernel_rfl) (fun _ _ _ h => h) (by rfl) ?_ (by assumption) ?_
      · intro w hSw
        go_simp
      simp only [Act.put, List.setIfInBounds_toArray, List.set_cons_zero, List.set_cons_succ]
      refine takeL_do (i := 5) (v := (.pointer (some ⟨g, 2 * i, none⟩))) rfl (by kernel_rfl) (by kernel_rfl) (by kernel_rfl) (by kernel_rfl) (fun _ _ _ h => h) (by rfl) ?_ (by assumption) ?_
      · intro w hSw
        go_simp
      simp only [Act.put, List.setIfInBounds_toArray, List.set_cons_zero, List.set_cons_succ]
      refine takeL_do (i := 6) (v := (.int .u64 (n0 : Nat))) rfl (by kernel_rfl) (by kernel_rfl) (by kernel_rfl) (by kernel_rfl) (fun _ _ _ h => h) (by rfl) ?_ (by assumption) ?_
      · intro w hSw
        have c1 := hSw.2
        go_simp
      simp only [Act.put, List.setIfInBounds_toArray, List.set_cons_zero, List.set_cons_succ]
      refine takeL_do (i := 7) (v := (.int .i64 m0)) rfl (by kernel_rfl) (by kernel_rfl) (by kernel_rfl) (by kernel_rfl) (fun _ _ _ h => h) (by rfl) ?_ (by assumption) ?_
      · intro w hSw
        go_simp
      simp only [Act.put, List.setIfInBounds_toArray, List.set_cons_zero, List.set_cons_succ]
      refine takeL_do (i := 8) (v := (.int .i64 x2)) rfl (by kernel_rfl) (by kernel_rfl) (by kernel_rfl) (by kernel_rfl) (fun _ _ _ h => h) (by rfl) ?_ (by assumption) ?_
      · intro w hSw
        go_simp
      simp only [Act.put, List.setIfInBounds_toArray, List.set_cons_zero, List.set_cons_succ]
      refine takeL_do (i := 9) (v := (.pointer (some ⟨w.heap.size, 0, none⟩))) rfl (by kernel_rfl) (by kernel_rfl) (by kernel_rfl) (by kernel_rfl) (fun _ _ _ h => h) (by rfl) ?_ (by assumption) ?_
      · intro w hSw
        go_simp
      simp only [Act.put, List.setIfInBounds_toArray, List.set_cons_zero, List.set_cons_succ]
      obtain ⟨⟨p0, p1⟩, fp0, fp1⟩ := rowN2 HSD.out.row
      have hpl := HSD.out.row.lt
      refine takeL_last rfl (by kernel_rfl) (by kernel_rfl) (fun K2 hK => ?_)
      go_simp
      refine hK.out _ _ ?_
      clear hK hHeld p0 p1 fp0 fp1
      obtain ⟨E, hE⟩ : ∃ E, E = D.setCell ⟨w.heap.size, 0, none⟩ (.int .i64 x2) := ⟨_, rfl⟩
      have HS6 : Hid (BqS w u3 L x2 y E) := by show BqS _ _ _ _ _ _; rw [hE]; exact HSD.out.set0 x2
      have HC6 : Hid (IsU (some ⟨g, 0, none⟩) l E) := by show IsU _ _ _; rw [hE]; exact HCD.out.set (by have := HLO.out; exact this) _ _
      rw [← hE]
      clear hE HSD HCD hS hC
      obtain ⟨c1, e1⟩ := HC6.out.at_ (j := 2 * i + 1) hlen
      rw [← HN1E.out] at c1
      go_wp2_with fail
      refine region_L (S := fun V => V.rowIs w.heap.size 104 2 (rowN [.int .i64 x2, .int .i64 y]) ∧ V.cell? ⟨g, 2 * i + 1, none⟩ = some (.int .u64 (n1 : Nat))) 9 (by kernel_rfl) ⟨HS6.out.row.of_block rfl, c1⟩ (fun hHeld => ?_)
      obtain ⟨D, hD⟩ : ∃ D, D = E.drew := ⟨_, rfl⟩
      rw [← hD] at hHeld ⊢
      have HSD : Hid (BqS w u3 L x2 y D) := by show BqS _ _ _ _ _ _; rw [hD]; exact HS6.out.below (Below.refl _ _).drew
      have HCD : Hid (IsU (some ⟨g, 0, none⟩) l D) := by show IsU _ _ _; rw [hD]; exact HC6.out.below (Below.refl _ _).drew
      clear hD c1 HS6 HC6
      refine takeL_do (i := 0) (v := (.pointer (some ⟨w.heap.size, 1, none⟩))) rfl (by kernel_rfl) (by kernel_rfl) (by kernel_rfl) (by kernel_rfl) (fun _ _ _ h => h) (by rfl) ?_ (by assumption) ?_
      · intro w hSw
        go_simp
      simp only [Act.put, List.setIfInBounds_toArray, List.set_cons_zero, List.set_cons_succ]
      refine takeL_do (i := 1) (v := (.int .i64 y)) rfl (by kernel_rfl) (by kernel_rfl) (by kernel_rfl) (by kernel_rfl) (fun _ _ _ h => h) (by rfl) ?_ (by assumption) ?_
      · intro w hSw
        obtain ⟨⟨p0, p1⟩, _⟩ := rowN2 hSw.1
        go_simp
      simp only [Act.put, List.setIfInBounds_toArray, List.set_cons_zero, List.set_cons_succ]
      refine takeL_do (i := 2) (v := (.slice (some ⟨g, 0, none⟩) N k)) rfl (by kernel_rfl) (by kernel_rfl) (by kernel_rfl) (by kernel_rfl) (fun _ _ _ h => h) (by rfl) ?_ (by assumption) ?_
      · intro w hSw
        go_simp
      simp only [Act.put, List.setIfInBounds_toArray, List.set_cons_zero, List.set_cons_succ]
      refine takeL_do (i := 3) (v := (.int .i64 z1)) rfl (by kernel_rfl) (by kernel_rfl) (by kernel_rfl) (by kernel_rfl) (fun _ _ _ h => h) (by rfl) ?_ (by assumption) ?_
      · intro w hSw
        go_simp
      simp only [Act.put, List.setIfInBounds_toArray, List.set_cons_zero, List.set_cons_succ]
      refine takeL_do (i := 4) (v := (.pointer (some ⟨g, 2 * i + 1, none⟩))) rfl (by kernel_rfl) (by kernel_rfl) (by kernel_rfl) (by kernel_rfl) (fun _ _ _ h => h) (by rfl) ?_ (by assumption) ?_
      · intro w hSw
        go_simp
      simp only [Act.put, List.setIfInBounds_toArray, List.set_cons_zero, List.set_cons_succ]
      refine takeL_do (i := 5) (v := (.int .u64 (n1 : Nat))) rfl (by kernel_rfl) (by kernel_rfl) (by kernel_rfl) (by kernel_rfl) (fun _ _ _ h => h) (by rfl) ?_ (by assumption) ?_
      · intro w hSw
        have c1 := hSw.2
        go_simp
      simp only [Act.put, List.setIfInBounds_toArray, List.set_cons_zero, List.set_cons_succ]
      refine takeL_call (i := 6) rfl (by kernel_rfl) (fun K2 hK => ?_)
      go_simp
      refine (unfolded_any n1 hn1 _).mono ?_
      rintro e D2 ⟨rfl, hD2⟩
      rw [HM1.out]
      go_wp2_with fail
      refine hK.out _ _ (by first | exact hHeld | (rw [hD2]; exact hHeld)) (fun hHeld2 => ?_)
      clear hK hHeld
      refine takeL_do (i := 7) (v := (.int .i64 y2)) rfl (by kernel_rfl) (by kernel_rfl) (by kernel_rfl) (by kernel_rfl) (fun _ _ _ h => h) (by rfl) ?_ (by assumption) ?_
      · intro w hSw
        go_simp
      simp only [Act.put, List.setIfInBounds_toArray, List.set_cons_zero, List.set_cons_succ]
      refine takeL_do (i := 8) (v := (.pointer (some ⟨w.heap.size, 1, none⟩))) rfl (by kernel_rfl) (by kernel_rfl) (by kernel_rfl) (by kernel_rfl) (fun _ _ _ h => h) (by rfl) ?_ (by assumption) ?_
      · intro w hSw
        go_simp
      simp only [Act.put, List.setIfInBounds_toArray, List.set_cons_zero, List.set_cons_succ]
      obtain ⟨⟨p0, p1⟩, fp0, fp1⟩ := rowN2 HSD.out.row
      have hpl := HSD.out.row.lt
      refine takeL_last rfl (by kernel_rfl) (by kernel_rfl) (fun K2 hK => ?_)
      go_simp
      refine hK.out _ _ ?_
      clear hK hHeld2 p0 p1 fp0 fp1
      generalize hE : World.setCell _ ⟨w.heap.size, 1, none⟩ (.int .i64 y2) = E2
      have HS7 : Hid (BqS w u3 L x2 y2 E2) := by show BqS _ _ _ _ _ _; rw [← hE]; first | exact HSD.out.set1 y2 | (rw [hD2]; exact HSD.out.set1 y2)
      have HC7 : Hid (IsU (some ⟨g, 0, none⟩) l E2) := by show IsU _ _ _; rw [← hE]; first | exact HCD.out.set (by have := HLO.out; exact this) _ _ | (rw [hD2]; exact HCD.out.set (by have := HLO.out; exact this) _ _)
      clear hE HSD HCD
      obtain ⟨⟨p0, p1⟩, fp0, fp1⟩ := rowN2 HS7.out.row
      have hpl2 := HS7.out.row.lt
      have HSA := Lib.hid (HS7.out.below (nbel_alloc E2 (.cells #[.int .i64 x2, .int .i64 y2] 104)))
      have HMO := Lib.hid (one_in E2 104 x2 y2)
      have hszE := HS7.out.bel.size
      go_wp2_with (at_builtin; refine wpList_append_ns (l := L) (m := [(x2, y2)]) rfl _ _ 59 rfl 104 i0 (.agg #[.int .i64 0, .int .i64 0]) 16 Tryd.underlying59 hi0 hz0 hz1 hz2 rfl (w.heap.size + 1) _ rfl HSA.out.own (some ⟨E2.heap.size, 0, none⟩) 1 rfl HMO.out (by unfold maxLen; simp; omega) (by simp; omega) (by simp; omega) ?_)
      intro v' W3 hown hgrow
      have HP := Lib.hid (HSA.out.push (p := x2) (q := y2) (by simpa using hown) hgrow)
      have HC8 : Hid (IsU (some ⟨g, 0, none⟩) l W3) := (HC7.out.below (nbel_alloc E2 _)).grown hgrow (fun q e => (World.ownsRow.lt HSA.out.own q e).1) HLT.out
      clear hown hgrow HSA HMO HS7 HC7 p0 p1 fp0 fp1
      go_wp2_with fail
      go_roundw
      case rel => exact ⟨i + 1, L ++ [(x2, y2)], x2, y2, by omega, by simp; omega, by rw [HZ1.out], HP, HC8, HPT2⟩
      case measure => have := HZ1.out; have := HZ1E.out; simp [intOf]; omega
    · have hltz : ¬ ((2 * i + 1 : Nat) : Int) < (N : Int) := by omega
      have HE : Hid (Hs.pts 0 0 l = L) := by show _ = _; rw [hPT.out, Hs.pts_few x y l (2 * i) (by rw [← HNN.out]; omega), List.append_nil]
      have hltz2 : ¬ (2 * (i : Int) + 1) < (N : Int) := by omega
      go_wp2_with fail
      go_ret
      refine ⟨⟨_, rfl, ?_⟩, by rw [HE.out]; omega, hS.out.bel⟩
      rw [HE.out]
      refine ⟨hS.out.own.1, ?_⟩
      rcases hS.out.own.2 with h2 | ⟨g, cap, cur, e1, e2, e3⟩
      · exact Or.inl h2
      · exact Or.inr ⟨g, cap, cur, e1, by omega, e3⟩
theorem hstr_ne {x y : ByteArray} (h : x ≠ y) : (x.toList == y.toList) = false := by
  rw [Bool.eq_false_iff]
  intro k
  apply h
  rw [beq_iff_eq, ByteArray.toList_eq, ByteArray.toList_eq] at k
  apply ByteArray.ext
  exact Array.toList_inj.1 k
theorem hstr_eq (x : ByteArray) : (x.toList == x.toList) = true := beq_self_eq_true _
theorem hba {l : List UInt8} {s : ByteArray} : (⟨l.toArray⟩ : ByteArray) = s ↔ l = s.data.toList := by
  constructor
  · intro h; rw [← h]
  · intro h; rw [h]
set_option maxRecDepth 100000 in
set_option maxHeartbeats 8000000 in
theorem readP_any (s : ByteArray) (w : World) (hs : s.size ≤ 9223372036854775807) :
    Calls Tryd.prog 58 #[.string s] w fun e w' => (∃ l cd v ev, Hs.Rd s.data.toList l cd ∧ e = .returned (.tuple #[v, ev]) ∧ w'.ownsRow w.heap.size 104 2 v l.length (nvs l) ∧ ((cd = 0 ∧ ev = .nilIface) ∨ (l = [] ∧ v = .slice none 0 0 ∧ ∃ y, ev = .iface 83 y ∧ AsFinds y cd))) ∧ Below w.heap.size w w' := by
  have hlen : s.data.toList.length = s.size := rfl
  by_cases hbig : (20000 : Int) < (s.size : Int)
  · have HR : Hid (Hs.Rd s.data.toList [] 2) := Hs.rd_long (by omega)
    go_enter Tryd.func58, Tryd.ntmps58
    go_wp2_with fail
    exact bodyPost_ret (v := .tuple #[.slice none 0 0, errV ⟨#[97, 32, 116, 101, 120, 116]⟩ 2]) (by simp only [results, Tryd.results58]; simp [go_sem]) rfl ⟨⟨[], 2, _, _, HR.out, rfl, World.ownsRow_nil _ _ _ _, Or.inr ⟨rfl, rfl, _, rfl, finds_one _ 2⟩⟩, Below.refl _ _⟩
  have HS : Hid (s.data.toList.length ≤ 20000) := by show _ ≤ _; omega
  obtain ⟨bs, hbs⟩ : ∃ bs, bs = s.data.toList := ⟨_, rfl⟩
  have HBS := Lib.hid hbs
  have HM : Hid (∀ x ∈ Hs.numsW bs, x < 18446744073709551616) := fun x hx => by
    unfold Hs.numsW at hx
    obtain ⟨y, _, rfl⟩ := List.mem_map.1 hx
    exact Nat.mod_lt _ (by decide)
  rw [← hbs] at HS
  clear hbs
  go_enter Tryd.func58, Tryd.ntmps58
  go_wp2_with fail
  refine (numsIn_any s w (by omega)).mono ?_
  rintro e w1 ⟨⟨v1, rfl, ho⟩, hln, hb⟩
  rw [← HBS.out] at ho hln
  obtain ⟨a, k, rfl, hc⟩ := u64_cells ho
  have HC : Hid (IsU a (Hs.numsW bs) w1) := by
    rcases hc with h | ⟨g, h1, _, h2⟩
    · exact Or.inl h
    · exact Or.inr ⟨g, h1, h2⟩
  have HLN := Lib.hid hln
  have HB1 := Lib.hid hb
  obtain ⟨M, hM⟩ : ∃ M, M = (Hs.numsW bs).length := ⟨_, rfl⟩
  rw [← hM]
  have HMM := Lib.hid hM
  clear ho hln hc hb hM
  go_wp2_with fail
  rw [HMM.out]
  refine (ptsBy_any a k (Hs.numsW bs) w1 HC.out HLN.out HM.out).mono ?_
  rintro e w2 ⟨⟨v2, rfl, ho⟩, hln, hb⟩
  obtain ⟨L, hL⟩ : ∃ L, L = Hs.pts 0 0 (Hs.numsW bs) := ⟨_, rfl⟩
  rw [← hL] at ho hln
  have HLE : Hid (L = Hs.rdI bs) := hL
  have HB2 : Hid (Below w.heap.size w w2) := HB1.out.trans (hb.mono HB1.out.size)
  obtain ⟨a2, k2, rfl, hcy⟩ := cyo_own ho
  have HCY := Lib.hid hcy
  have HO := Lib.hid ho
  have HL2 := Lib.hid hln
  have HSZ := Lib.hid HB1.out.size
  obtain ⟨N, hN⟩ : ∃ N, N = L.length := ⟨_, rfl⟩
  rw [← hN]
  have HNN := Lib.hid hN
  clear ho hcy hln hb hL HMM HC HLN HM hN
  go_wp2_with fail
  rw [HNN.out]
  refine (implTx_any a2 L.length k2 (Ln.fl L) w2 HCY.out.at_ (by have := HL2.out; omega)).mono ?_
  rintro e w3 ⟨rfl, hb⟩
  rw [← HNN.out]
  have HB3 : Hid (Below w.heap.size w w3) := HB2.out.trans (hb.mono HB2.out.size)
  have HO3 : Hid (w3.ownsRow w.heap.size 104 2 (.slice a2 N k2) L.length (nvs L)) := by
    show World.ownsRow _ _ _ _ _ _ _
    have := hown_keep HO.out (fun q _ hq => hb.block q hq)
    rw [HNN.out]
    refine ⟨this.1, ?_⟩
    rcases this.2 with h2 | ⟨g, cap, cur, e1, e2, e3⟩
    · exact Or.inl h2
    · exact Or.inr ⟨g, cap, cur, e1, Nat.le_trans HSZ.out e2, e3⟩
  obtain ⟨T, hT⟩ : ∃ T : ByteArray, T = ⟨(Hs.text (Ln.fl L) N).toArray⟩ := ⟨_, rfl⟩
  have HTE : Hid (T = ⟨(Hs.textL L).toArray⟩) := by show T = _; rw [hT, HNN.out]; rfl
  rw [← hT]
  clear hb hT HCY HO HB2
  by_cases c : T = s
  · have HY : Hid (Hs.Rd bs L 0) := by
      show Hs.Rd _ _ _
      have e : Hs.textL L = bs := by rw [HBS.out]; exact hba.1 (HTE.out.symm.trans c)
      rw [HLE.out] at e ⊢
      exact Hs.rdI_yes HS.out e
    subst c
    have hs1 := hstr_eq T
    have hs2 : (T.toList != T.toList) = false := by simp [bne]
    go_wp2_with fail
    refine bodyPost_ret (v := .tuple #[.slice a2 N k2, .nilIface]) (by simp only [results, Tryd.results58]; simp [go_sem]) rfl ?_
    exact ⟨⟨L, 0, _, _, by rw [← HBS.out]; exact HY.out, rfl, HO3.out, Or.inl ⟨rfl, rfl⟩⟩, HB3.out⟩
  · have HY : Hid (Hs.Rd bs [] 3) := by
      show Hs.Rd _ _ _
      refine Hs.rdI_no HS.out (fun e => c ?_)
      rw [HTE.out, HLE.out, e, HBS.out]
    have hs1 := hstr_ne c
    have hs2 : (T.toList != s.toList) = true := by simp [bne, hs1]
    clear c
    go_wp2_with fail
    refine bodyPost_ret (v := .tuple #[.slice none 0 0, errV ⟨#[97, 32, 104, 105, 115, 116, 111, 114, 121, 32, 119, 114, 105, 116, 116, 101, 110, 32, 111, 116, 104, 101, 114, 119, 105, 115, 101]⟩ 3]) (by simp only [results, Tryd.results58]; simp [go_sem]) rfl ?_
    exact ⟨⟨[], 3, _, _, by rw [← HBS.out]; exact HY.out, rfl, World.ownsRow_nil _ _ _ _, Or.inr ⟨rfl, rfl, _, rfl, finds_one _ 3⟩⟩, HB3.out⟩
/-- How a reading ends. -/
def PoE (t : List UInt8) (B : Nat) (e : Ending) (W : World) : Prop := ∃ l cd a k, Hs.Rd t l cd ∧ e = .returned (.agg #[.slice a l.length k, .int .i64 cd]) ∧ CyO 104 B (l.length * 2) a k (Ln.fl l) W
set_option maxRecDepth 100000 in
set_option maxHeartbeats 8000000 in
theorem implRead_any (s : ByteArray) (w : World) (hs : s.size ≤ 9223372036854775807) (hg : Et w) :
    Calls Tryd.prog 23 #[.string s] w fun e w' => PoE s.data.toList w.heap.size e w' ∧ Below w.heap.size w w' := by
  obtain ⟨W, hW⟩ : ∃ W, W = w.alloc (.cells #[.slice none 0 0, .int .i64 0] 65) := ⟨_, rfl⟩
  have HB : Hid (Below w.heap.size w W) := by show Below _ _ _; rw [hW]; exact nbel_alloc _ _
  have HX : Hid (W.rowIs w.heap.size 65 2 (rowN [.slice none 0 0, .int .i64 0])) := by show W.rowIs _ _ _ _; rw [hW]; exact rowN_alloc w [.slice none 0 0, .int .i64 0] _
  have HG := Lib.hid (hg.below HB.out)
  have HW := Lib.hid hW
  clear hW hg
  go_enter Tryd.func23, Tryd.ntmps23
  go_wp2_with fail
  rw [← HW.out]
  clear HW
  refine (readP_any s W hs).mono ?_
  rintro e w1 ⟨⟨l, cd, v, ev, hr, rfl, ho, hcase⟩, hb⟩
  have HR := Lib.hid hr
  have HB1 : Hid (Below w.heap.size w w1) := HB.out.trans (hb.mono HB.out.size)
  have HX1 := Lib.hid (nrow_below HX.out hb)
  have HG1 := Lib.hid (HG.out.below hb)
  have HSZ := Lib.hid HB.out.size
  obtain ⟨a, k, rfl, hcy⟩ := cyo_own ho
  have HCY := Lib.hid (hcy.low HSZ.out)
  clear hb hr ho hcy HX HB HG
  rcases hcase with ⟨rfl, rfl⟩ | ⟨rfl, hv, y, rfl, hy⟩
  · obtain ⟨N, hN⟩ : ∃ N, N = l.length := ⟨_, rfl⟩
    have HNN := Lib.hid hN
    rw [← hN]
    obtain ⟨⟨x0, x1⟩, f0, f1⟩ := rowN2 HX1.out
    have hxl := HX1.out.lt
    obtain ⟨Z, hZ⟩ : ∃ Z, Z = (w1.setCell ⟨w.heap.size, 0, none⟩ (.slice a N k)).setCell ⟨w.heap.size, 1, none⟩ (.int .i64 0) := ⟨_, rfl⟩
    have HZR : Hid (Z.rowIs w.heap.size 65 2 (rowN [.slice a N k, .int .i64 0])) := by show World.rowIs _ _ _ _ _; rw [hZ]; exact rowN_put (rowN_put HX1.out 0 (.slice a N k) (by simp)) 1 (.int .i64 0) (by simp)
    have HZB : Hid (Below w.heap.size w Z) := by show Below _ _ _; rw [hZ]; exact (HB1.out.setCell (p := ⟨w.heap.size, 0, none⟩) (Nat.le_refl _) _).setCell (p := ⟨w.heap.size, 1, none⟩) (Nat.le_refl _) _
    have HZC : Hid (CyO 104 w.heap.size (l.length * 2) a k (Ln.fl l) Z) := by
      show CyO _ _ _ _ _ _ _
      rw [hZ]
      refine HCY.out.keep (fun q e _ _ => ?_)
      have hq : q ≠ w.heap.size := fun e2 => HCY.out.ne HX1.out (by decide) (by rw [e, e2])
      rw [bihs _ _ _ hq, bihs _ _ _ hq]
    have HZ := Lib.hid hZ
    clear hZ hN HCY
    go_wp2_with fail
    rw [← HZ.out]
    obtain ⟨⟨z0, z1⟩, _⟩ := rowN2 HZR.out
    exact bodyPost_ret (v := .agg #[.slice a N k, .int .i64 0]) (by simp only [results, Tryd.results23]; simp [go_sem, z0, z1]) rfl ⟨⟨l, 0, a, k, HR.out, by rw [HNN.out], HZC.out⟩, HZB.out⟩
  · cases hv
    go_wp2_with fail
    refine (codeOf_any y cd hy _ HG1.out).mono ?_
    rintro e w2 ⟨rfl, hb⟩
    have HX2 := Lib.hid (nrow_below HX1.out hb)
    have HB2 : Hid (Below w.heap.size w w2) := HB1.out.trans (hb.mono HB1.out.size)
    clear hb HX1 HB1 HCY
    obtain ⟨⟨x0, x1⟩, f0, f1⟩ := rowN2 HX2.out
    have hxl := HX2.out.lt
    obtain ⟨Z, hZ⟩ : ∃ Z, Z = (w2.setCell ⟨w.heap.size, 0, none⟩ (.slice none 0 0)).setCell ⟨w.heap.size, 1, none⟩ (.int .i64 cd) := ⟨_, rfl⟩
    have HZR : Hid (Z.rowIs w.heap.size 65 2 (rowN [.slice none 0 0, .int .i64 cd])) := by show World.rowIs _ _ _ _ _; rw [hZ]; exact rowN_put (rowN_put HX2.out 0 (.slice none 0 0) (by simp)) 1 (.int .i64 cd) (by simp)
    have HZB : Hid (Below w.heap.size w Z) := by show Below _ _ _; rw [hZ]; exact (HB2.out.setCell (p := ⟨w.heap.size, 0, none⟩) (Nat.le_refl _) _).setCell (p := ⟨w.heap.size, 1, none⟩) (Nat.le_refl _) _
    have HZ := Lib.hid hZ
    clear hZ
    go_wp2_with fail
    rw [← HZ.out]
    obtain ⟨⟨z0, z1⟩, _⟩ := rowN2 HZR.out
    exact bodyPost_ret (v := .agg #[.slice none 0 0, .int .i64 cd]) (by simp only [results, Tryd.results23]; simp [go_sem, z0, z1]) rfl ⟨⟨[], cd, none, 0, HR.out, rfl, CyO.nil⟩, HZB.out⟩
end Go.Proofs.YtmejmpdljckfgaaDoor
