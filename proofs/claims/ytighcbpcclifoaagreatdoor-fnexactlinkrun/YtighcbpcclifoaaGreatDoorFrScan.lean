/-
  The contract of the model's FramesOf.
-/
import Derived.Test.YtighcbpcclifoaaGreatDoorFrRead
import Derived.Test.YtighcbpcclifoaaGreatDoorScBase
namespace Go.Proofs.YtighcbpcclifoaaGreatDoor
open Go.RowKit Go.Deep

/-- The scan so far: the slot of the answer, the answer so far, its list, the old memory. -/
def SC (w : World) (v : Value) (lost rest : Int) (os : List Fr.Out) (W : World) : Prop :=
  W.rowIs w.heap.size 80 4 (so4 (.slice none 0 0) 0 0 0) ∧ W.rowIs (w.heap.size + 1) 80 4 (so4 v lost rest 0) ∧ W.ownsRow (w.heap.size + 2) 85 4 v os.length (os.flatMap outCells) ∧ Below w.heap.size w W
theorem SC.below {w : World} {v : Value} {lost rest : Int} {os : List Fr.Out} {W W' : World} (h : SC w v lost rest os W) (hb : Below W.heap.size W W') : SC w v lost rest os W' :=
  ⟨h.1.of_block (hb.block _ h.1.lt), h.2.1.of_block (hb.block _ h.2.1.lt), ownsRow_block h.2.2.1 (fun k _ hk => hb.block k hk), h.2.2.2.trans (hb.mono h.2.2.2.size)⟩
theorem SC.set {w : World} {v v' : Value} {lost rest lost' rest' : Int} {os : List Fr.Out} {W : World} (h : SC w v lost rest os W) (i : Nat) (x : Value) (e : ∀ j, j < 4 → (if j = i then x else so4 v lost rest 0 j) = so4 v' lost' rest' 0 j) (ho : W.ownsRow (w.heap.size + 2) 85 4 v' os.length (os.flatMap outCells)) : SC w v' lost' rest' os (W.setCell ⟨w.heap.size + 1, i, none⟩ x) :=
  ⟨h.1.setOther (by show w.heap.size ≠ w.heap.size + 1; omega) x, (h.2.1.set i x).congr e, ownsRow_block ho (fun k hk _ => blk_setCell_other _ _ _ _ (by show k ≠ w.heap.size + 1; omega)), h.2.2.2.setCell (p := ⟨w.heap.size + 1, i, none⟩) (by show w.heap.size ≤ w.heap.size + 1; omega) x⟩
theorem SC.lost {w : World} {v : Value} {lost rest : Int} {os : List Fr.Out} {W : World} (h : SC w v lost rest os W) (x : Int) : SC w v x rest os (W.setCell ⟨w.heap.size + 1, 1, none⟩ (.int .i64 x)) :=
  h.set 1 _ (fun j _ => by unfold so4; by_cases e : j = 1 <;> simp [e]) h.2.2.1
theorem SC.rest {w : World} {v : Value} {lost rest : Int} {os : List Fr.Out} {W : World} (h : SC w v lost rest os W) (x : Int) : SC w v lost x os (W.setCell ⟨w.heap.size + 1, 2, none⟩ (.int .i64 x)) :=
  h.set 2 _ (fun j _ => by unfold so4; by_cases e : j = 2 <;> simp [e]) h.2.2.1
/-- A frame behind the others. -/
theorem SC.push {w : World} {v v' : Value} {lost rest : Int} {os : List Fr.Out} {o : Fr.Out} {W W' : World} {ob : Obj} (h : SC w v lost rest os W) (hg : (W.alloc ob).grownBy W' v.ownBlock) (hown : W'.ownsRow (w.heap.size + 2) 85 4 v' (os.length + 1) (os.flatMap outCells ++ outCells o)) :
    SC w v' lost rest (os ++ [o]) (W'.setCell ⟨w.heap.size + 1, 0, none⟩ v') := by
  have hz := h.2.1.lt
  have hrow : ∀ k, v.ownBlock = some k → w.heap.size + 2 ≤ k := fun k e => (h.2.2.1.lt k e).1
  have hk : ∀ k, k < w.heap.size + 2 → W'.heap[k]? = W.heap[k]? := fun k hk => by
    rw [hg.block k (by simp; omega) (fun e => by have := hrow k e.symm; omega)]
    exact blk_alloc_lt _ _ _ (by omega)
  have r1 : W'.rowIs w.heap.size 80 4 (so4 (.slice none 0 0) 0 0 0) := h.1.of_block (hk _ (by omega))
  have r2 : W'.rowIs (w.heap.size + 1) 80 4 (so4 v lost rest 0) := h.2.1.of_block (hk _ (by omega))
  have hb : Below w.heap.size w W' := ⟨hg.os.trans h.2.2.2.os, hg.tape.trans h.2.2.2.tape, hg.output.trans h.2.2.2.output, by have := hg.size; have := h.2.2.2.size; simp at *; omega, fun k hk2 => (hk k (by omega)).trans (h.2.2.2.block k hk2)⟩
  refine ⟨r1.setOther (by show w.heap.size ≠ w.heap.size + 1; omega) _, (r2.set 0 v').congr (fun j _ => by unfold so4; by_cases e : j = 0 <;> simp [e]), ?_, hb.setCell (p := ⟨w.heap.size + 1, 0, none⟩) (by show w.heap.size ≤ w.heap.size + 1; omega) _⟩
  refine ownsRow_block ?_ (fun k hk _ => blk_setCell_other _ _ _ _ (by show k ≠ w.heap.size + 1; omega))
  rw [List.flatMap_append, List.length_append]
  simpa using hown

theorem sc_fin0 {w : World} {v : Value} {lost rest : Int} {os : List Fr.Out} {W : World} (h : SC w v lost rest os W) (a b c d : Value) :
    (((((W.setCell ⟨w.heap.size, 0, none⟩ a).setCell ⟨w.heap.size, 1, none⟩ b).setCell ⟨w.heap.size, 2, none⟩ c).setCell ⟨w.heap.size, 3, none⟩ d).cell? ⟨w.heap.size, 0, none⟩ = some a ∧ ((((W.setCell ⟨w.heap.size, 0, none⟩ a).setCell ⟨w.heap.size, 1, none⟩ b).setCell ⟨w.heap.size, 2, none⟩ c).setCell ⟨w.heap.size, 3, none⟩ d).cell? ⟨w.heap.size, 1, none⟩ = some b ∧ ((((W.setCell ⟨w.heap.size, 0, none⟩ a).setCell ⟨w.heap.size, 1, none⟩ b).setCell ⟨w.heap.size, 2, none⟩ c).setCell ⟨w.heap.size, 3, none⟩ d).cell? ⟨w.heap.size, 2, none⟩ = some c ∧ ((((W.setCell ⟨w.heap.size, 0, none⟩ a).setCell ⟨w.heap.size, 1, none⟩ b).setCell ⟨w.heap.size, 2, none⟩ c).setCell ⟨w.heap.size, 3, none⟩ d).cell? ⟨w.heap.size, 3, none⟩ = some d) ∧
    ((((W.setCell ⟨w.heap.size, 0, none⟩ a).setCell ⟨w.heap.size, 1, none⟩ b).setCell ⟨w.heap.size, 2, none⟩ c).setCell ⟨w.heap.size, 3, none⟩ d).ownsRow (w.heap.size + 2) 85 4 v os.length (os.flatMap outCells) ∧ Below w.heap.size w ((((W.setCell ⟨w.heap.size, 0, none⟩ a).setCell ⟨w.heap.size, 1, none⟩ b).setCell ⟨w.heap.size, 2, none⟩ c).setCell ⟨w.heap.size, 3, none⟩ d) := by
  have r := (((h.1.set 0 a).set 1 b).set 2 c).set 3 d
  refine ⟨⟨?_, ?_, ?_, ?_⟩, ?_, ?_⟩
  · have := r.cell (i := 0) (by omega); simpa using this
  · have := r.cell (i := 1) (by omega); simpa using this
  · have := r.cell (i := 2) (by omega); simpa using this
  · have := r.cell (i := 3) (by omega); simpa using this
  · exact ownsRow_set (ownsRow_set (ownsRow_set (ownsRow_set h.2.2.1 (p := ⟨w.heap.size, 0, none⟩) (by show w.heap.size < _; omega) a) (p := ⟨w.heap.size, 1, none⟩) (by show w.heap.size < _; omega) b) (p := ⟨w.heap.size, 2, none⟩) (by show w.heap.size < _; omega) c) (p := ⟨w.heap.size, 3, none⟩) (by show w.heap.size < _; omega) d
  · exact (((h.2.2.2.setCell (p := ⟨w.heap.size, 0, none⟩) (Nat.le_refl _) a).setCell (p := ⟨w.heap.size, 1, none⟩) (Nat.le_refl _) b).setCell (p := ⟨w.heap.size, 2, none⟩) (Nat.le_refl _) c).setCell (p := ⟨w.heap.size, 3, none⟩) (Nat.le_refl _) d
theorem sc_fin {w : World} {v : Value} {lost rest : Int} {os : List Fr.Out} {W : World} (h : SC w v lost rest os W) (a b c d : Value) (ob : Obj) :
    ((((((W.setCell ⟨w.heap.size, 0, none⟩ a).setCell ⟨w.heap.size, 1, none⟩ b).setCell ⟨w.heap.size, 2, none⟩ c).setCell ⟨w.heap.size, 3, none⟩ d).alloc ob).cell? ⟨w.heap.size, 0, none⟩ = some a ∧ (((((W.setCell ⟨w.heap.size, 0, none⟩ a).setCell ⟨w.heap.size, 1, none⟩ b).setCell ⟨w.heap.size, 2, none⟩ c).setCell ⟨w.heap.size, 3, none⟩ d).alloc ob).cell? ⟨w.heap.size, 1, none⟩ = some b ∧ (((((W.setCell ⟨w.heap.size, 0, none⟩ a).setCell ⟨w.heap.size, 1, none⟩ b).setCell ⟨w.heap.size, 2, none⟩ c).setCell ⟨w.heap.size, 3, none⟩ d).alloc ob).cell? ⟨w.heap.size, 2, none⟩ = some c ∧ (((((W.setCell ⟨w.heap.size, 0, none⟩ a).setCell ⟨w.heap.size, 1, none⟩ b).setCell ⟨w.heap.size, 2, none⟩ c).setCell ⟨w.heap.size, 3, none⟩ d).alloc ob).cell? ⟨w.heap.size, 3, none⟩ = some d) ∧
    (((((W.setCell ⟨w.heap.size, 0, none⟩ a).setCell ⟨w.heap.size, 1, none⟩ b).setCell ⟨w.heap.size, 2, none⟩ c).setCell ⟨w.heap.size, 3, none⟩ d).alloc ob).ownsRow (w.heap.size + 2) 85 4 v os.length (os.flatMap outCells) ∧ Below w.heap.size w (((((W.setCell ⟨w.heap.size, 0, none⟩ a).setCell ⟨w.heap.size, 1, none⟩ b).setCell ⟨w.heap.size, 2, none⟩ c).setCell ⟨w.heap.size, 3, none⟩ d).alloc ob) := by
  obtain ⟨⟨h0, h1, h2, h3⟩, h4, h5⟩ := sc_fin0 h a b c d
  have hl := World.block_lt_of_cell? _ _ h0
  exact ⟨⟨(World.cell?_alloc_lt _ _ ⟨w.heap.size, 0, none⟩ hl).trans h0, (World.cell?_alloc_lt _ _ ⟨w.heap.size, 1, none⟩ hl).trans h1, (World.cell?_alloc_lt _ _ ⟨w.heap.size, 2, none⟩ hl).trans h2, (World.cell?_alloc_lt _ _ ⟨w.heap.size, 3, none⟩ hl).trans h3⟩, h4.alloc _, h5.alloc h5.size _⟩

theorem sc_start (w : World) : SC w (.slice none 0 0) ((0 : Nat) : Int) 0 [] ((w.alloc (.cells #[.slice none 0 0, .int .i64 0, .int .i64 0, .int .i64 0] 80)).alloc (.cells #[.slice none 0 0, .int .i64 0, .int .i64 0, .int .i64 0] 80)) := by
  have r1 := World.rowIs_alloc w #[.slice none 0 0, .int .i64 0, .int .i64 0, .int .i64 0] 80 _ (so4_row (.slice none 0 0) 0 0 0)
  have r2 := World.rowIs_alloc (w.alloc (.cells #[.slice none 0 0, .int .i64 0, .int .i64 0, .int .i64 0] 80)) #[.slice none 0 0, .int .i64 0, .int .i64 0, .int .i64 0] 80 _ (so4_row (.slice none 0 0) 0 0 0)
  have e : (w.alloc (.cells #[.slice none 0 0, .int .i64 0, .int .i64 0, .int .i64 0] 80)).heap.size = w.heap.size + 1 := by simp
  rw [e] at r2
  exact ⟨r1.alloc _, r2, World.ownsRow_nil _ _ _ _, ((Below.refl _ _).alloc (Nat.le_refl _) _).alloc (by simp) _⟩

set_option maxRecDepth 100000 in
set_option maxHeartbeats 4000000 in
theorem specScan_any (s : ByteArray) (hs : s.size ≤ 20000) (w : World) :
    Calls Tryz.prog 38 #[.string s] w fun e w' => ∃ v, e = .returned (.agg #[v, .int .i64 (Fr.scan s.data.toList).2.1, .int .i64 (Fr.scan s.data.toList).2.2, .int .i64 0]) ∧ w'.ownsRow (w.heap.size + 2) 85 4 v (Fr.scan s.data.toList).1.length ((Fr.scan s.data.toList).1.flatMap outCells) ∧ Below w.heap.size w w' := by
  have hz : ¬ (20000 : Int) < (s.size : Int) := by omega
  obtain ⟨i1, hi1, hy0, hy1, hy2⟩ := info_parts info_fr
  go_enter Tryz.func38, Tryz.ntmps38
  go_wp2_with fail
  go_loopw [4, 5] (fun iv _ wr => ∃ (i lost : Nat) (v : Value) (os : List Fr.Out), iv = .int .i64 i ∧ i ≤ s.size ∧ Hid (lost ≤ i) ∧ Hid (os.length ≤ i) ∧ Hid (SC w v lost 0 os wr) ∧ Hid (Fr.scan s.data.toList = (os ++ (Fr.scan (s.data.toList.drop i)).1, lost + (Fr.scan (s.data.toList.drop i)).2.1, (Fr.scan (s.data.toList.drop i)).2.2))) (fun iv _ _ => s.size - (intOf iv).toNat)
  case atStart => exact ⟨0, 0, .slice none 0 0, [], rfl, Nat.zero_le _, Nat.le_refl _, Nat.zero_le _, sc_start w, by show _ = _; simp⟩
  case round =>
    obtain ⟨i, lost, v0, os, rfl, hi, hlo, hol, hS, hsc⟩ := hrel
    obtain ⟨av, nv, cv, rfl⟩ : ∃ a n c, v0 = .slice a n c := by
      rcases hS.out.2.2.1.2 with h | ⟨g, cp, _, e, _⟩
      · exact ⟨none, 0, 0, h.1⟩
      · exact ⟨_, _, _, e⟩
    by_cases hlt : i < s.size
    · have hltz : (i : Int) < (s.size : Int) := by omega
      have hex : (s.extract i s.size).data.toList = s.data.toList.drop i := by
        rw [Lib.extract_data, List.take_of_length_le (by simp)]
      have hes : (s.extract i s.size).size ≤ 20000 := by
        show (s.extract i s.size).data.toList.length ≤ 20000
        rw [hex, List.length_drop]
        have : s.data.toList.length = s.size := rfl
        omega
      have HK := Lib.hid (fun wx => specFrRead_any (s.extract i s.size) hes wx)
      rw [hex] at HK
      have hne : Hid (s.data.toList.drop i ≠ []) := fun e => by
        have e2 := congrArg List.length e
        rw [List.length_drop] at e2
        have : s.data.toList.length = s.size := rfl
        simp at e2; omega
      clear hex hes
      go_wp2_with fail
      refine (HK.out _).mono ?_
      rintro e w2 ⟨rfl, hb⟩
      have HS2 : Hid (SC w (.slice av nv cv) lost 0 os w2) := hS.out.below hb
      clear hb hS HK
      have HRd : Hid (∃ o, o = Fr.read (s.data.toList.drop i)) := ⟨_, rfl⟩
      obtain ⟨o, ho⟩ := HRd.out
      rw [← ho]
      have HO := Lib.hid ho
      clear ho HRd
      unfold Fr.val
      have c0 : w2.cell? ⟨w.heap.size + 1, 0, none⟩ = some (.slice av nv cv) := HS2.out.2.1.cell (i := 0) (by omega)
      have c1 : w2.cell? ⟨w.heap.size + 1, 1, none⟩ = some (.int .i64 lost) := HS2.out.2.1.cell (i := 1) (by omega)
      have c2 : w2.cell? ⟨w.heap.size + 1, 2, none⟩ = some (.int .i64 0) := HS2.out.2.1.cell (i := 2) (by omega)
      have c3 : w2.cell? ⟨w.heap.size + 1, 3, none⟩ = some (.int .i64 0) := HS2.out.2.1.cell (i := 3) (by omega)
      have g0 : w2.frozen? ⟨w.heap.size + 1, 0, none⟩ = false := HS2.out.2.1.frozen 0
      have g1 : w2.frozen? ⟨w.heap.size + 1, 1, none⟩ = false := HS2.out.2.1.frozen 1
      have g2 : w2.frozen? ⟨w.heap.size + 1, 2, none⟩ = false := HS2.out.2.1.frozen 2
      have r0 : w2.cell? ⟨w.heap.size, 0, none⟩ = some (.slice none 0 0) := HS2.out.1.cell (i := 0) (by omega)
      have r1 : w2.cell? ⟨w.heap.size, 1, none⟩ = some (.int .i64 0) := HS2.out.1.cell (i := 1) (by omega)
      have r2 : w2.cell? ⟨w.heap.size, 2, none⟩ = some (.int .i64 0) := HS2.out.1.cell (i := 2) (by omega)
      have r3 : w2.cell? ⟨w.heap.size, 3, none⟩ = some (.int .i64 0) := HS2.out.1.cell (i := 3) (by omega)
      have k0 : w2.frozen? ⟨w.heap.size, 0, none⟩ = false := HS2.out.1.frozen 0
      have k1 : w2.frozen? ⟨w.heap.size, 1, none⟩ = false := HS2.out.1.frozen 1
      have k2 : w2.frozen? ⟨w.heap.size, 2, none⟩ = false := HS2.out.1.frozen 2
      have k3 : w2.frozen? ⟨w.heap.size, 3, none⟩ = false := HS2.out.1.frozen 3
      have zO : w.heap.size + 1 < w2.heap.size := HS2.out.2.1.lt
      have zR : w.heap.size < w2.heap.size := HS2.out.1.lt
      have H3 : Hid (SC w (.slice av nv cv) lost 0 os (w2.alloc (.cells #[.int .i64 o.u, .int .i64 o.k, .int .i64 o.s, .string ⟨o.b.toArray⟩, .int .i64 o.used, .int .i64 o.code] 115))) := HS2.out.below ((Below.refl _ _).alloc (Nat.le_refl _) _)
      by_cases h6 : o.code = 6
      · have e6 : (o.code == 6) = true := by simp [h6]
        have HC6 : Hid (Fr.scan s.data.toList = (os, lost, s.size - i)) := by
          show _ = _
          rw [hsc.out, Fr.scan_short _ hne.out (by rw [← HO.out]; exact h6)]
          simp
        clear h6
        have H4 := Lib.hid (HS2.out.rest ((s.size : Int) - (i : Int)))
        have hF := Lib.hid (sc_fin H4.out (.slice av nv cv) (.int .i64 lost) (.int .i64 ((s.size : Int) - (i : Int))) (.int .i64 0) (.cells #[.int .i64 o.u, .int .i64 o.k, .int .i64 o.s, .string ⟨o.b.toArray⟩, .int .i64 o.used, .int .i64 o.code] 115))
        go_wp2_with fail
        exact bodyPost_ret (v := .agg #[.slice av nv cv, .int .i64 lost, .int .i64 ((s.size : Int) - (i : Int)), .int .i64 0]) (by
          obtain ⟨⟨x0, x1, x2, x3⟩, _⟩ := hF.out
          simp only [results, Tryz.results38]
          simp [go_sem, x0, x1, x2, x3]) rfl ⟨.slice av nv cv, by
          rw [HC6.out]
          have e : ((s.size - i : Nat) : Int) = (s.size : Int) - (i : Int) := by omega
          simp only [e], by rw [HC6.out]; exact hF.out.2.1, hF.out.2.2⟩
      · have e6 : (o.code == 6) = false := by simp [h6]
        by_cases h0 : o.code = 0
        · have e0 : (o.code != 0) = false := by simp [h0]
          have hu := Fr.read_used (l := s.data.toList.drop i) (by rw [← HO.out]; exact h0)
          rw [← HO.out, List.length_drop] at hu
          obtain ⟨m, hm⟩ : ∃ m : Nat, o.used = (m : Int) := ⟨o.used.toNat, by omega⟩
          have hm8 : 8 ≤ m := by omega
          have hmi : i + m ≤ s.size := by
            have : s.data.toList.length = s.size := rfl
            omega
          have hs2 : Hid (Fr.scan s.data.toList = ((os ++ [o]) ++ (Fr.scan (s.data.toList.drop (i + m))).1, lost + (Fr.scan (s.data.toList.drop (i + m))).2.1, (Fr.scan (s.data.toList.drop (i + m))).2.2)) := by
            show _ = _
            rw [hsc.out, Fr.scan_frame _ hne.out (by rw [← HO.out]; exact h0), ← HO.out, hm, List.drop_drop]
            simp
          have hol2 := hol.out
          have hown0 := Lib.hid (HS2.out.2.2.1.lt)
          clear h6 h0 hu
          rw [hm] at H3
          rw [hm]
          go_wp2_with (at_builtin; refine wpList_append_own _ rfl _ _ 78 rfl (w.heap.size + 2) 85 i1 _ 4 40 Tryz.underlying78 hi1 hy0 hy1 hy2 rfl (by decide) _ _ _ rfl (H3.out.2.2.1.alloc _) ⟨w2.heap.size + 1, 0, none⟩ 1 1 [.int .i64 o.u, .int .i64 o.k, .int .i64 o.s, .string ⟨o.b.toArray⟩] rfl rfl ?d1 ?d2 ?d3 ?d4 ?d5 ?_)
          case d1 =>
            intro j x hj
            match j, hj with
            | 0, hj => simp at hj; subst hj; simp [Addr.add]
            | 1, hj => simp at hj; subst hj; simp [Addr.add]
            | 2, hj => simp at hj; subst hj; simp [Addr.add]
            | 3, hj => simp at hj; subst hj; simp [Addr.add]
          case d2 =>
            intro x hx
            simp at hx
            rcases hx with rfl | rfl | rfl | rfl <;> rfl
          case d3 => unfold maxLen; omega
          case d4 => omega
          case d5 => simp; omega
          intro v5 W5 hown hgrow hnil
          have H5 := Lib.hid (H3.out.push (o := o) hgrow hown)
          obtain ⟨a5, n5, c5, rfl⟩ : ∃ a n c, v5 = .slice a n c := by
            rcases hown.2 with h | ⟨g, cp, _, e, _⟩
            · exact ⟨none, 0, 0, h.1⟩
            · exact ⟨_, _, _, e⟩
          have hW : ∀ k, k ≤ w2.heap.size → (∀ q, (Value.slice av nv cv).ownBlock = some q → q ≠ k) → W5.heap[k]? = ((w2.alloc (.cells #[.int .i64 o.u, .int .i64 o.k, .int .i64 o.s, .string ⟨o.b.toArray⟩, .int .i64 m, .int .i64 o.code] 115)).alloc (.cells #[.int .i64 o.u, .int .i64 o.k, .int .i64 o.s, .string ⟨o.b.toArray⟩] 85)).heap[k]? := fun k hk hq => hgrow.block k (by simp; omega) (fun e => hq k e.symm rfl)
          have q0 := hW (w.heap.size + 1) (by omega) (fun q e => by have := (hown0.out q e).1; omega)
          have q1 := hW w2.heap.size (Nat.le_refl _) (fun q e => by have := (hown0.out q e).2; omega)
          have n0 : W5.cell? ⟨w.heap.size + 1, 0, none⟩ = some (.slice av nv cv) := by
            rw [World.cell?_of_block (a := ⟨w.heap.size + 1, 0, none⟩) q0, World.cell?_alloc_lt _ _ _ (by simp; omega), World.cell?_alloc_lt _ _ _ zO]; exact c0
          have n1 : W5.frozen? ⟨w.heap.size + 1, 0, none⟩ = false := ((H3.out.2.1.alloc _).of_block q0).frozen 0
          have n4 : W5.cell? ⟨w2.heap.size, 4, none⟩ = some (.int .i64 m) := by
            rw [World.cell?_of_block (a := ⟨w2.heap.size, 4, none⟩) q1]; simp
          have n6 : w2.heap.size < W5.heap.size := by have := hgrow.size; simp at this; omega
          have n7 : w.heap.size + 1 < W5.heap.size := by omega
          clear hown hgrow hnil hW q0 q1 hown0 H3
          go_wp2_with fail
          go_roundw
          case rel => exact ⟨i + m, lost, .slice a5 n5 c5, os ++ [o], by go_num, by omega, by have := hlo.out; show _ ≤ _; omega, by show _ ≤ _; simp; omega, H5, hs2⟩
          case measure => simp [intOf]; omega
        · have e0 : (o.code != 0) = true := by simp [h0]
          have H4 := Lib.hid (HS2.out.lost ((lost : Int) + 1))
          have hs2 : Hid (Fr.scan s.data.toList = (os ++ (Fr.scan (s.data.toList.drop (i + 1))).1, (lost + 1) + (Fr.scan (s.data.toList.drop (i + 1))).2.1, (Fr.scan (s.data.toList.drop (i + 1))).2.2)) := by
            show _ = _
            rw [hsc.out, Fr.scan_lost _ hne.out (by rw [← HO.out]; exact h6) (by rw [← HO.out]; exact h0), List.drop_drop]
            simp only [Nat.add_assoc, Nat.add_comm 1]
          have hlo2 := hlo.out
          clear h6 h0
          go_wp2_with fail
          go_roundw
          case rel => exact ⟨i + 1, lost + 1, .slice av nv cv, os, by go_num, by omega, by show _ ≤ _; omega, by have := hol.out; show _ ≤ _; omega, by
            have := H4.out.below ((Below.refl _ _).alloc (Nat.le_refl _) (.cells #[.int .i64 o.u, .int .i64 o.k, .int .i64 o.s, .string ⟨o.b.toArray⟩, .int .i64 o.used, .int .i64 o.code] 115))
            exact this, hs2⟩
          case measure => simp [intOf]; omega
    · obtain rfl : i = s.size := by omega
      have HC : Hid (Fr.scan s.data.toList = (os, lost, 0)) := by
        show _ = _
        have e : s.data.toList.drop s.size = [] := List.drop_eq_nil_of_le (Nat.le_refl _)
        rw [hsc.out, e, Fr.scan_nil]; simp
      have c0 : wr.cell? ⟨w.heap.size + 1, 0, none⟩ = some (.slice av nv cv) := hS.out.2.1.cell (i := 0) (by omega)
      have c1 : wr.cell? ⟨w.heap.size + 1, 1, none⟩ = some (.int .i64 lost) := hS.out.2.1.cell (i := 1) (by omega)
      have c2 : wr.cell? ⟨w.heap.size + 1, 2, none⟩ = some (.int .i64 0) := hS.out.2.1.cell (i := 2) (by omega)
      have c3 : wr.cell? ⟨w.heap.size + 1, 3, none⟩ = some (.int .i64 0) := hS.out.2.1.cell (i := 3) (by omega)
      have r0 : wr.cell? ⟨w.heap.size, 0, none⟩ = some (.slice none 0 0) := hS.out.1.cell (i := 0) (by omega)
      have r1 : wr.cell? ⟨w.heap.size, 1, none⟩ = some (.int .i64 0) := hS.out.1.cell (i := 1) (by omega)
      have r2 : wr.cell? ⟨w.heap.size, 2, none⟩ = some (.int .i64 0) := hS.out.1.cell (i := 2) (by omega)
      have r3 : wr.cell? ⟨w.heap.size, 3, none⟩ = some (.int .i64 0) := hS.out.1.cell (i := 3) (by omega)
      have k0 : wr.frozen? ⟨w.heap.size, 0, none⟩ = false := hS.out.1.frozen 0
      have k1 : wr.frozen? ⟨w.heap.size, 1, none⟩ = false := hS.out.1.frozen 1
      have k2 : wr.frozen? ⟨w.heap.size, 2, none⟩ = false := hS.out.1.frozen 2
      have k3 : wr.frozen? ⟨w.heap.size, 3, none⟩ = false := hS.out.1.frozen 3
      have hF := Lib.hid (sc_fin0 hS.out (.slice av nv cv) (.int .i64 lost) (.int .i64 0) (.int .i64 0))
      go_wp2_with fail
      exact bodyPost_ret (v := .agg #[.slice av nv cv, .int .i64 lost, .int .i64 0, .int .i64 0]) (by
        obtain ⟨⟨x0, x1, x2, x3⟩, _⟩ := hF.out
        simp only [results, Tryz.results38]
        simp [go_sem, x0, x1, x2, x3]) rfl ⟨_, by rw [HC.out]; rfl, by rw [HC.out]; exact hF.out.2.1, hF.out.2.2⟩
end Go.Proofs.YtighcbpcclifoaaGreatDoor
