/-
  The contract of the program's FramesOf.
-/
import Derived.Test.YtdlojhncbgfjbaaGreatDoorFrI8
import Derived.WalkMore
namespace Go.Proofs.YtdlojhncbgfjbaaGreatDoor
open Go.RowKit Go.Deep

set_option maxRecDepth 100000 in
set_option maxHeartbeats 1000000 in
theorem codeOf_nil (w : World) : Calls Tryz.prog 17 #[.nilIface] w fun e w' => e = .returned (.int .i64 0) ∧ Below w.heap.size w w' := by
  go_enter Tryz.func17, Tryz.ntmps17
  go_wp2_with fail
  go_ret
  exact ⟨rfl, Below.refl _ _⟩

/-- Where the scanner stands. -/
def scnAt (p : Nat) (W : World) : Nat := match W.cell? ⟨p, 1, none⟩ with
  | some v => (intOf v).toNat
  | none => 0
theorem Scn.at_eq {B p g cap i : Nat} {l : List UInt8} {W : World} (h : Scn B p g cap l i W) : scnAt p W = i := by
  unfold scnAt
  rw [h.2.2.2.2.2.2.1.cell (i := 1) (by omega)]
  simp [scn2, intOf]

theorem Scn.far {B p g cap i : Nat} {l : List UInt8} {W : World} (h : Scn B p g cap l i W) (U j : Nat) (x : Value) (h1 : U ≠ p) (h2 : l ≠ [] → U ≠ g) : Scn B p g cap l i (W.setCell ⟨U, j, none⟩ x) := by
  obtain ⟨k1, k2, k3, k4, k5, k6, k7, k8⟩ := h
  refine ⟨k1, k2, k3, k4, k5, k6, k7.setOther (by show p ≠ U; omega) x, fun j2 hj => ?_⟩
  rw [World.cell?_setCell_far _ _ _ _ (by show U ≠ g; exact h2 (fun e => by subst e; simp at hj))]
  exact k8 j2 hj
theorem Scn.move {B p g cap i : Nat} {l : List UInt8} {W : World} (h : Scn B p g cap l i W) (i' : Nat) (hi : i' ≤ l.length) (t : Int) (ht : t = i') : Scn B p g cap l i' (W.setCell ⟨p, 1, none⟩ (.int .i64 t)) := by
  obtain ⟨k1, k2, k3, k4, k5, k6, k7, k8⟩ := h
  subst ht
  refine ⟨k1, k2, k3, k4, hi, k6, (k7.set 1 _).congr (fun j hj => ?_), fun j2 hj => ?_⟩
  · have hk2 : j = 0 ∨ j = 1 := by omega
    rcases hk2 with rfl | rfl <;> rfl
  · rw [World.cell?_setCell_far _ _ _ _ (by show p ≠ g; exact k3)]
    exact k8 j2 hj

theorem Scn.same {B p g cap i : Nat} {l : List UInt8} {W W' : World} (h : Scn B p g cap l i W) (h1 : W'.heap[p]? = W.heap[p]?) (h2 : l ≠ [] → W'.heap[g]? = W.heap[g]?) : Scn B p g cap l i W' := by
  obtain ⟨k1, k2, k3, k4, k5, k6, k7, k8⟩ := h
  refine ⟨k1, k2, k3, k4, k5, k6, k7.of_block h1, fun j hj => ?_⟩
  rw [World.cell?_of_block (a := ⟨g, j, none⟩) (h2 (fun e => by subst e; simp at hj))]
  exact k8 j hj

/-- The end of the scan: the answer in its slot. -/
theorem scb_fin {B : Nat} {w : World} {v : Value} {lost rest : Int} {os : List Fr.Out} {W : World} (h : SCB B w v lost rest os W) (hw : B ≤ w.heap.size) (a b c d : Value) :
    (((((W.setCell ⟨w.heap.size, 0, none⟩ a).setCell ⟨w.heap.size, 1, none⟩ b).setCell ⟨w.heap.size, 2, none⟩ c).setCell ⟨w.heap.size, 3, none⟩ d).cell? ⟨w.heap.size, 0, none⟩ = some a ∧ ((((W.setCell ⟨w.heap.size, 0, none⟩ a).setCell ⟨w.heap.size, 1, none⟩ b).setCell ⟨w.heap.size, 2, none⟩ c).setCell ⟨w.heap.size, 3, none⟩ d).cell? ⟨w.heap.size, 1, none⟩ = some b ∧ ((((W.setCell ⟨w.heap.size, 0, none⟩ a).setCell ⟨w.heap.size, 1, none⟩ b).setCell ⟨w.heap.size, 2, none⟩ c).setCell ⟨w.heap.size, 3, none⟩ d).cell? ⟨w.heap.size, 2, none⟩ = some c ∧ ((((W.setCell ⟨w.heap.size, 0, none⟩ a).setCell ⟨w.heap.size, 1, none⟩ b).setCell ⟨w.heap.size, 2, none⟩ c).setCell ⟨w.heap.size, 3, none⟩ d).cell? ⟨w.heap.size, 3, none⟩ = some d) ∧
    ((((W.setCell ⟨w.heap.size, 0, none⟩ a).setCell ⟨w.heap.size, 1, none⟩ b).setCell ⟨w.heap.size, 2, none⟩ c).setCell ⟨w.heap.size, 3, none⟩ d).ownsRow (w.heap.size + 2) 70 4 v os.length (os.flatMap outCells) ∧ Below B w ((((W.setCell ⟨w.heap.size, 0, none⟩ a).setCell ⟨w.heap.size, 1, none⟩ b).setCell ⟨w.heap.size, 2, none⟩ c).setCell ⟨w.heap.size, 3, none⟩ d) := by
  have r := (((h.1.set 0 a).set 1 b).set 2 c).set 3 d
  refine ⟨⟨?_, ?_, ?_, ?_⟩, ?_, ?_⟩
  · have := r.cell (i := 0) (by omega); simpa using this
  · have := r.cell (i := 1) (by omega); simpa using this
  · have := r.cell (i := 2) (by omega); simpa using this
  · have := r.cell (i := 3) (by omega); simpa using this
  · exact ownsRow_set (ownsRow_set (ownsRow_set (ownsRow_set h.2.2.1 (p := ⟨w.heap.size, 0, none⟩) (by show w.heap.size < _; omega) a) (p := ⟨w.heap.size, 1, none⟩) (by show w.heap.size < _; omega) b) (p := ⟨w.heap.size, 2, none⟩) (by show w.heap.size < _; omega) c) (p := ⟨w.heap.size, 3, none⟩) (by show w.heap.size < _; omega) d
  · exact (((h.2.2.2.setCell (p := ⟨w.heap.size, 0, none⟩) hw a).setCell (p := ⟨w.heap.size, 1, none⟩) hw b).setCell (p := ⟨w.heap.size, 2, none⟩) hw c).setCell (p := ⟨w.heap.size, 3, none⟩) hw d
/-- The cells that the end reads and writes. -/
theorem SCB.cells {B : Nat} {w : World} {v : Value} {lost rest : Int} {os : List Fr.Out} {W : World} (h : SCB B w v lost rest os W) :
    (W.cell? ⟨w.heap.size + 1, 0, none⟩ = some v ∧ W.cell? ⟨w.heap.size + 1, 1, none⟩ = some (.int .i64 lost) ∧ W.cell? ⟨w.heap.size + 1, 2, none⟩ = some (.int .i64 rest) ∧ W.cell? ⟨w.heap.size + 1, 3, none⟩ = some (.int .i64 0)) ∧ (W.frozen? ⟨w.heap.size + 1, 0, none⟩ = false ∧ W.frozen? ⟨w.heap.size + 1, 1, none⟩ = false ∧ W.frozen? ⟨w.heap.size + 1, 2, none⟩ = false) ∧
    (W.cell? ⟨w.heap.size, 0, none⟩ = some (.slice none 0 0) ∧ W.cell? ⟨w.heap.size, 1, none⟩ = some (.int .i64 0) ∧ W.cell? ⟨w.heap.size, 2, none⟩ = some (.int .i64 0) ∧ W.cell? ⟨w.heap.size, 3, none⟩ = some (.int .i64 0)) ∧ (W.frozen? ⟨w.heap.size, 0, none⟩ = false ∧ W.frozen? ⟨w.heap.size, 1, none⟩ = false ∧ W.frozen? ⟨w.heap.size, 2, none⟩ = false ∧ W.frozen? ⟨w.heap.size, 3, none⟩ = false) ∧ w.heap.size + 1 < W.heap.size ∧ w.heap.size < W.heap.size :=
  ⟨⟨h.2.1.cell (i := 0) (by omega), h.2.1.cell (i := 1) (by omega), h.2.1.cell (i := 2) (by omega), h.2.1.cell (i := 3) (by omega)⟩, ⟨h.2.1.frozen 0, h.2.1.frozen 1, h.2.1.frozen 2⟩, ⟨h.1.cell (i := 0) (by omega), h.1.cell (i := 1) (by omega), h.1.cell (i := 2) (by omega), h.1.cell (i := 3) (by omega)⟩, ⟨h.1.frozen 0, h.1.frozen 1, h.1.frozen 2, h.1.frozen 3⟩, h.2.1.lt, h.1.lt⟩

set_option maxRecDepth 100000 in
set_option maxHeartbeats 4000000 in
theorem all_any (B p g cap : Nat) (l : List UInt8) (w : World) (h : Scn B p g cap l 0 w) (hw : B ≤ w.heap.size) (he : ∀ W : World, Below B w W → Et W) :
    Calls Tryz.prog 96 #[.pointer (some ⟨p, 0, none⟩)] w fun e w' => ∃ v, e = .returned (.agg #[v, .int .i64 (Fr.scan l).2.1, .int .i64 (Fr.scan l).2.2, .int .i64 0]) ∧ w'.ownsRow (w.heap.size + 2) 70 4 v (Fr.scan l).1.length ((Fr.scan l).1.flatMap outCells) ∧ Below B w w' := by
  obtain ⟨i1, hi1, hy0, hy1, hy2⟩ := info_parts info_fr
  have H := Lib.hid h
  have HE := Lib.hid he
  have hp : B ≤ p := h.1
  have hpw : p < w.heap.size := h.2.2.2.2.2.2.1.lt
  have hl : l.length ≤ 20000 := h.2.2.2.2.2.1
  clear h he
  go_enter Tryz.func96, Tryz.ntmps96
  go_wp2_with fail
  go_step3
  go_wp2_with fail
  go_step3
  go_wp2_with fail
  go_loopw [] (fun wr => ∃ (i lost : Nat) (v : Value) (os : List Fr.Out), i ≤ l.length ∧ Hid (lost ≤ i) ∧ Hid (os.length ≤ i) ∧ Hid (Scn B p g cap l i wr) ∧ Hid (SCB B w v lost 0 os wr) ∧ Hid (Fr.scan l = (os ++ (Fr.scan (l.drop i)).1, lost + (Fr.scan (l.drop i)).2.1, (Fr.scan (l.drop i)).2.2))) (fun wr => l.length - scnAt p wr)
  case atStart => exact ⟨0, 0, .slice none 0 0, [], Nat.zero_le _, Nat.le_refl _, Nat.zero_le _, H.out.below (((Below.refl _ _).alloc (Nat.le_refl _) _).alloc (by simp) _), scb_start B w hw, by show _ = _; simp⟩
  case round =>
    obtain ⟨i, lost, v0, os, hi, hlo, hol, hS, hC, hsc⟩ := hrel
    obtain ⟨av, nv, cv, rfl⟩ : ∃ a n c, v0 = .slice a n c := by
      rcases hC.out.2.2.1.2 with h | ⟨g, cp, _, e, _⟩
      · exact ⟨none, 0, 0, h.1⟩
      · exact ⟨_, _, _, e⟩
    have c0 : wr.cell? ⟨p, 0, none⟩ = some (.slice (some ⟨g, 0, none⟩) l.length cap) := hS.out.2.2.2.2.2.2.1.cell (i := 0) (by omega)
    have c1 : wr.cell? ⟨p, 1, none⟩ = some (.int .i64 (i : Int)) := hS.out.2.2.2.2.2.2.1.cell (i := 1) (by omega)
    by_cases hlt : i < l.length
    · have hltz : (i : Int) < (l.length : Int) := by omega
      have hne : Hid (l.drop i ≠ []) := fun e => by
        have e2 := congrArg List.length e
        rw [List.length_drop] at e2
        simp at e2; omega
      go_wp2_with fail
      go_region
      go_wp2_with fail
      have hS1 : Hid (Scn B p g cap l i wr.drew) := hS.out.below (Below.refl _ _).drew
      have hC1 : Hid (SCB B w (.slice av nv cv) lost 0 os wr.drew) := hC.out.below hw (Below.refl _ _).drew
      have hAt : Hid (scnAt p wr = i) := hS.out.at_eq
      clear hS hC c0 c1
      generalize wr.drew = W1 at *
      refine (scnFrame_any _ p g cap i _ _ hS1.out).mono ?_
      rintro e w2 (⟨sx, c, hc, hrd, rfl, hb⟩ | ⟨hrd, hle, rfl, hS2, hgr⟩)
      · have HR := Lib.hid hrd
        have hS2 : Hid (Scn B p g cap l i w2) := hS1.out.below hb
        have hC2 : Hid (SCB B w (.slice av nv cv) lost 0 os w2) := hC1.out.below hw hb
        clear hb hrd hS1 hC1
        have z0 : w.heap.size + 1 < w2.heap.size := hC2.out.2.1.lt
        go_wp2_with fail
        refine (codeOf_errV _ c _ ((HE.out _ hC2.out.2.2.2).alloc _)).mono ?_
        rintro e w3 ⟨rfl, hb⟩
        have hb3 : Below w2.heap.size w2 w3 := ((Below.refl _ _).alloc (Nat.le_refl _) _).trans (hb.mono (by simp))
        have hS3 : Hid (Scn B p g cap l i w3) := hS2.out.below hb3
        have hC3 : Hid (SCB B w (.slice av nv cv) lost 0 os w3) := hC2.out.below hw hb3
        clear hb hb3 hS2 hC2 z0
        have hcz : (c == 0) = false := by simp; exact hc
        obtain ⟨⟨d0, d1, d2, d3⟩, ⟨g0, g1, g2⟩, ⟨r0, r1, r2, r3⟩, ⟨k0, k1, k2, k3⟩, zO, zR⟩ := hC3.out.cells
        by_cases h6 : c = 6
        · have e6 : (c == 6) = true := by simp [h6]
          have HC6 : Hid (Fr.scan l = (os, lost, l.length - i)) := by
            show _ = _
            rw [hsc.out, Fr.scan_short _ hne.out (by rw [HR.out]; exact h6)]
            simp
          clear h6
          go_wp2_with fail
          refine (rest_any _ _ _ _ _ _ _ hS3.out).mono ?_
          rintro e w4 ⟨⟨o, cc, rfl, hcc, ho⟩, m, rfl⟩
          clear ho hcc hS3 d0 d1 d2 d3 g0 g1 g2 r0 r1 r2 r3 k0 k1 k2 k3
          have hC4 : Hid (SCB B w (.slice av nv cv) lost 0 os (w3.drewN m)) := hC3.out.below hw (below_drewN (Below.refl _ _) m)
          clear hC3
          generalize w3.drewN m = W4 at *
          obtain ⟨⟨d0, d1, d2, d3⟩, ⟨g0, g1, g2⟩, ⟨r0, r1, r2, r3⟩, ⟨k0, k1, k2, k3⟩, zO4, zR4⟩ := hC4.out.cells
          have hF := Lib.hid (scb_fin (hC4.out.rest hw ((l.length - i : Nat) : Int)) hw (.slice av nv cv) (.int .i64 lost) (.int .i64 ((l.length - i : Nat) : Int)) (.int .i64 0))
          go_wp2_with fail
          rw [Exit.noGoto_ret]
          exact bodyPost_ret (v := .agg #[.slice av nv cv, .int .i64 lost, .int .i64 ((l.length - i : Nat) : Int), .int .i64 0]) (by
            obtain ⟨⟨x0, x1, x2, x3⟩, _⟩ := hF.out
            simp only [results, Tryz.results96]
            simp [go_sem, x0, x1, x2, x3]) rfl ⟨.slice av nv cv, by rw [HC6.out], by rw [HC6.out]; exact hF.out.2.1, hF.out.2.2⟩
        · have e6 : (c == 6) = false := by simp [h6]
          have hs2 : Hid (Fr.scan l = (os ++ (Fr.scan (l.drop (i + 1))).1, (lost + 1) + (Fr.scan (l.drop (i + 1))).2.1, (Fr.scan (l.drop (i + 1))).2.2)) := by
            show _ = _
            rw [hsc.out, Fr.scan_lost _ hne.out (by rw [HR.out]; exact h6) (by rw [HR.out]; exact hc), List.drop_drop]
            simp only [Nat.add_assoc, Nat.add_comm 1]
          have hlo2 := hlo.out
          have pc : w3.cell? ⟨p, 1, none⟩ = some (.int .i64 (i : Int)) := hS3.out.2.2.2.2.2.2.1.cell (i := 1) (by omega)
          have pf : w3.frozen? ⟨p, 1, none⟩ = false := hS3.out.2.2.2.2.2.2.1.frozen 1
          have n1 : p ≠ w.heap.size + 1 := by omega
          have n2 : w.heap.size + 1 ≠ p := by omega
          clear h6
          have H5 := Lib.hid ((hC3.out.lost hw ((lost : Int) + 1)).setP hp hpw 1 (.int .i64 ((i : Int) + 1)))
          have HS5 := Lib.hid ((hS3.out.far (w.heap.size + 1) 1 (.int .i64 ((lost : Int) + 1)) n2 (fun hl => by have := World.block_lt_of_cell? _ _ (H.out.2.2.2.2.2.2.2 i hlt); simp at this; omega)).move (i + 1) (by omega) ((i : Int) + 1) (by omega))
          go_wp2_with fail
          go_roundw
          case rel => exact ⟨i + 1, lost + 1, .slice av nv cv, os, by omega, by show _ ≤ _; omega, by have := hol.out; show _ ≤ _; omega, HS5, by
            have := H5.out
            exact this, hs2⟩
          case measure => rw [HS5.out.at_eq, hAt.out]; omega
      · obtain ⟨o, ho⟩ : ∃ o : Fr.Out, o = ⟨Fr.at8 (l.drop i) 1, Fr.at8 (l.drop i) 2, Fr.seq (l.drop i), Fr.body (l.drop i), 8 + Fr.bodyLen (l.drop i), 0⟩ := ⟨_, rfl⟩
        have e1 : Fr.at8 (l.drop i) 1 = o.u := by rw [ho]
        have e2 : Fr.at8 (l.drop i) 2 = o.k := by rw [ho]
        have e3 : Fr.seq (l.drop i) = o.s := by rw [ho]
        have e4 : Fr.body (l.drop i) = o.b := by rw [ho]
        have e5 : o.used = ((8 + Fr.bodyLen (l.drop i) : Nat) : Int) := by rw [ho]; simp
        have e6 : o.code = 0 := by rw [ho]
        rw [← ho] at hrd
        rw [e1, e2, e3, e4]
        clear e1 e2 e3 e4 ho
        generalize 8 + Fr.bodyLen (l.drop i) = m at *
        have hs2 : Hid (Fr.scan l = ((os ++ [o]) ++ (Fr.scan (l.drop (i + m))).1, lost + (Fr.scan (l.drop (i + m))).2.1, (Fr.scan (l.drop (i + m))).2.2)) := by
          show _ = _
          rw [hsc.out, Fr.scan_frame _ hne.out (by rw [hrd]; exact e6), hrd, e5, List.drop_drop]
          simp
        have hu := Fr.read_used (l := l.drop i) (by rw [hrd]; exact e6)
        rw [hrd, e5] at hu
        have hm8 : 8 ≤ m := by omega
        have hC2 : Hid (SCB B w (.slice av nv cv) lost 0 os w2) := hC1.out.grown hp hpw hgr
        have HS2 := Lib.hid hS2
        clear hgr hS2 hrd hu e5 e6 hS1 hC1 hsc
        have z0 : w.heap.size + 1 < w2.heap.size := hC2.out.2.1.lt
        go_wp2_with fail
        refine (codeOf_nil _).mono ?_
        rintro e w3 ⟨rfl, hb⟩
        have hb3 : Below w2.heap.size w2 w3 := ((Below.refl _ _).alloc (Nat.le_refl _) _).trans (hb.mono (by simp))
        have HS3 : Hid (Scn B p g cap l (i + m) w3) := HS2.out.below hb3
        have hC3 : Hid (SCB B w (.slice av nv cv) lost 0 os w3) := hC2.out.below hw hb3
        have f0 : w3.cell? ⟨w2.heap.size, 0, none⟩ = some (.int .i64 o.u) := (hb.cell (by simp)).trans (by simp)
        have f1 : w3.cell? ⟨w2.heap.size, 1, none⟩ = some (.int .i64 o.k) := (hb.cell (by simp)).trans (by simp)
        have f2 : w3.cell? ⟨w2.heap.size, 2, none⟩ = some (.int .i64 o.s) := (hb.cell (by simp)).trans (by simp)
        have f3 : w3.cell? ⟨w2.heap.size, 3, none⟩ = some (.string ⟨o.b.toArray⟩) := (hb.cell (by simp)).trans (by simp)
        clear hb hb3 HS2 hC2 z0
        obtain ⟨⟨d0, d1, d2, d3⟩, ⟨g0, g1, g2⟩, ⟨r0, r1, r2, r3⟩, ⟨k0, k1, k2, k3⟩, zO, zR⟩ := hC3.out.cells
        have hol2 := hol.out
        go_wp2_with (at_builtin; refine wpList_append_own _ rfl _ _ 63 rfl (w.heap.size + 2) 70 i1 _ 4 40 Tryz.underlying63 hi1 hy0 hy1 hy2 rfl (by decide) _ _ _ rfl (hC3.out.2.2.1.alloc _) ⟨w3.heap.size, 0, none⟩ 1 1 [.int .i64 o.u, .int .i64 o.k, .int .i64 o.s, .string ⟨o.b.toArray⟩] rfl rfl ?d1 ?d2 ?d3 ?d4 ?d5 ?_)
        case d1 =>
          intro j x hj
          match j, hj with
          | 0, hj => simp at hj; subst hj; simp [Addr.add]
          | 1, hj => simp at hj; subst hj; simp [Addr.add]
          | 2, hj => simp at hj; subst hj; simp [Addr.add]
          | 3, hj => simp at hj; subst hj; simp [Addr.add]
        case d2 =>
          intro x hx
          simp at hx
          rcases hx with rfl | rfl | rfl | rfl <;> rfl
        case d3 => unfold maxLen; omega
        case d4 => omega
        case d5 => simp; omega
        intro v5 W5 hown hgrow hnil
        have H5 := Lib.hid (hC3.out.push (o := o) hw hgrow hown)
        obtain ⟨a5, n5, c5, rfl⟩ : ∃ a n c, v5 = .slice a n c := by
          rcases hown.2 with h | ⟨g, cp, _, e, _⟩
          · exact ⟨none, 0, 0, h.1⟩
          · exact ⟨_, _, _, e⟩
        have hrow : ∀ k, (Value.slice av nv cv).ownBlock = some k → w.heap.size + 2 ≤ k := fun k e => (hC3.out.2.2.1.lt k e).1
        have hW : ∀ k, k < w.heap.size + 2 → W5.heap[k]? = w3.heap[k]? := fun k hk => by
          rw [hgrow.block k (by simp; omega) (fun e => by have := hrow k e.symm; omega)]
          exact blk_alloc_lt _ _ _ (by omega)
        have hgw : g < w.heap.size := World.block_lt_of_cell? _ _ (H.out.2.2.2.2.2.2.2 i hlt)
        have HS5 : Hid (Scn B p g cap l (i + m) (W5.setCell ⟨w.heap.size + 1, 0, none⟩ (.slice a5 n5 c5))) := (HS3.out.same (hW p (by omega)) (fun _ => hW g (by omega))).far (w.heap.size + 1) 0 _ (by omega) (fun _ => by omega)
        have q0 := hW (w.heap.size + 1) (by omega)
        have n0 : W5.cell? ⟨w.heap.size + 1, 0, none⟩ = some (.slice av nv cv) := (World.cell?_of_block (a := ⟨w.heap.size + 1, 0, none⟩) q0).trans d0
        have n1 : W5.frozen? ⟨w.heap.size + 1, 0, none⟩ = false := (hC3.out.2.1.of_block q0).frozen 0
        have n7 : w.heap.size + 1 < W5.heap.size := by have := hgrow.size; simp at this; omega
        clear hown hgrow hnil hW q0 hrow hC3 HS3 d0 d1 d2 d3 g0 g1 g2 r0 r1 r2 r3 k0 k1 k2 k3 f0 f1 f2 f3
        go_wp2_with fail
        go_roundw
        case rel => exact ⟨i + m, lost, .slice a5 n5 c5, os ++ [o], by omega, by have := hlo.out; show _ ≤ _; omega, by show _ ≤ _; simp; omega, HS5, H5, hs2⟩
        case measure => rw [HS5.out.at_eq, hAt.out]; omega
    · obtain rfl : i = l.length := by omega
      have HC : Hid (Fr.scan l = (os, lost, 0)) := by
        show _ = _
        have e : l.drop l.length = [] := List.drop_eq_nil_of_le (Nat.le_refl _)
        rw [hsc.out, e, Fr.scan_nil]; simp
      go_wp2_with fail
      go_region
      have hC1 : Hid (SCB B w (.slice av nv cv) lost 0 os wr.drew) := hC.out.below hw (Below.refl _ _).drew
      clear hS hC c0 c1
      generalize wr.drew = W1 at *
      obtain ⟨⟨d0, d1, d2, d3⟩, ⟨g0, g1, g2⟩, ⟨r0, r1, r2, r3⟩, ⟨k0, k1, k2, k3⟩, zO4, zR4⟩ := hC1.out.cells
      have hF := Lib.hid (scb_fin hC1.out hw (.slice av nv cv) (.int .i64 lost) (.int .i64 0) (.int .i64 0))
      go_wp2_with fail
      rw [Exit.noGoto_ret]
      exact bodyPost_ret (v := .agg #[.slice av nv cv, .int .i64 lost, .int .i64 0, .int .i64 0]) (by
        obtain ⟨⟨x0, x1, x2, x3⟩, _⟩ := hF.out
        simp only [results, Tryz.results96]
        simp [go_sem, x0, x1, x2, x3]) rfl ⟨_, by rw [HC.out]; rfl, by rw [HC.out]; exact hF.out.2.1, hF.out.2.2⟩

theorem own_lower {B B' n size : Nat} {e : TypeId} {v : Value} {xs : List Value} {W : World} (h : W.ownsRow B e size v n xs) (hb : B' ≤ B) : W.ownsRow B' e size v n xs := by
  obtain ⟨h1, h2⟩ := h
  refine ⟨h1, ?_⟩
  rcases h2 with h2 | ⟨g, cap, cur, e1, e2, e3, e4⟩
  · exact Or.inl h2
  · exact Or.inr ⟨g, cap, cur, e1, Nat.le_trans hb e2, e3, e4⟩
/-- The slot of an answer of FramesOf. -/
abbrev foO : Obj := .cells #[.slice none 0 0, .int .i64 0, .int .i64 0, .int .i64 0] 65
theorem slotF {w W : World} (h : Below (w.heap.size + 1) (w.alloc foO) W) : W.rowIs w.heap.size 65 4 (so4 (.slice none 0 0) 0 0 0) ∧ Below w.heap.size w W ∧ w.heap.size < W.heap.size := by
  have r1 := World.rowIs_alloc w #[.slice none 0 0, .int .i64 0, .int .i64 0, .int .i64 0] 65 _ (so4_row (.slice none 0 0) 0 0 0)
  exact ⟨r1.of_block (h.block _ (by omega)), ((Below.refl _ _).alloc (Nat.le_refl _) _).trans (h.mono (by omega)), by have := h.size; simp at this; omega⟩
theorem slotF_cells {w W : World} (h : W.rowIs w.heap.size 65 4 (so4 (.slice none 0 0) 0 0 0)) :
    (W.cell? ⟨w.heap.size, 0, none⟩ = some (.slice none 0 0) ∧ W.cell? ⟨w.heap.size, 1, none⟩ = some (.int .i64 0) ∧ W.cell? ⟨w.heap.size, 2, none⟩ = some (.int .i64 0) ∧ W.cell? ⟨w.heap.size, 3, none⟩ = some (.int .i64 0)) ∧ (W.frozen? ⟨w.heap.size, 0, none⟩ = false ∧ W.frozen? ⟨w.heap.size, 1, none⟩ = false ∧ W.frozen? ⟨w.heap.size, 2, none⟩ = false ∧ W.frozen? ⟨w.heap.size, 3, none⟩ = false) :=
  ⟨⟨h.cell (i := 0) (by omega), h.cell (i := 1) (by omega), h.cell (i := 2) (by omega), h.cell (i := 3) (by omega)⟩, ⟨h.frozen 0, h.frozen 1, h.frozen 2, h.frozen 3⟩⟩
theorem slotF_fin {w W : World} (h : W.rowIs w.heap.size 65 4 (so4 (.slice none 0 0) 0 0 0)) (hb : Below w.heap.size w W) (a b c d : Value) :
    (((((W.setCell ⟨w.heap.size, 0, none⟩ a).setCell ⟨w.heap.size, 1, none⟩ b).setCell ⟨w.heap.size, 2, none⟩ c).setCell ⟨w.heap.size, 3, none⟩ d).cell? ⟨w.heap.size, 0, none⟩ = some a ∧ ((((W.setCell ⟨w.heap.size, 0, none⟩ a).setCell ⟨w.heap.size, 1, none⟩ b).setCell ⟨w.heap.size, 2, none⟩ c).setCell ⟨w.heap.size, 3, none⟩ d).cell? ⟨w.heap.size, 1, none⟩ = some b ∧ ((((W.setCell ⟨w.heap.size, 0, none⟩ a).setCell ⟨w.heap.size, 1, none⟩ b).setCell ⟨w.heap.size, 2, none⟩ c).setCell ⟨w.heap.size, 3, none⟩ d).cell? ⟨w.heap.size, 2, none⟩ = some c ∧ ((((W.setCell ⟨w.heap.size, 0, none⟩ a).setCell ⟨w.heap.size, 1, none⟩ b).setCell ⟨w.heap.size, 2, none⟩ c).setCell ⟨w.heap.size, 3, none⟩ d).cell? ⟨w.heap.size, 3, none⟩ = some d) ∧
    Below w.heap.size w ((((W.setCell ⟨w.heap.size, 0, none⟩ a).setCell ⟨w.heap.size, 1, none⟩ b).setCell ⟨w.heap.size, 2, none⟩ c).setCell ⟨w.heap.size, 3, none⟩ d) := by
  have r := (((h.set 0 a).set 1 b).set 2 c).set 3 d
  refine ⟨⟨?_, ?_, ?_, ?_⟩, ?_⟩
  · have := r.cell (i := 0) (by omega); simpa using this
  · have := r.cell (i := 1) (by omega); simpa using this
  · have := r.cell (i := 2) (by omega); simpa using this
  · have := r.cell (i := 3) (by omega); simpa using this
  · exact (((hb.setCell (p := ⟨w.heap.size, 0, none⟩) (Nat.le_refl _) a).setCell (p := ⟨w.heap.size, 1, none⟩) (Nat.le_refl _) b).setCell (p := ⟨w.heap.size, 2, none⟩) (Nat.le_refl _) c).setCell (p := ⟨w.heap.size, 3, none⟩) (Nat.le_refl _) d

set_option maxRecDepth 100000 in
set_option maxHeartbeats 2000000 in
theorem implScan_any (s : ByteArray) (hs : s.size ≤ 20000) (w : World) (hg : Et w) :
    Calls Tryz.prog 77 #[.string s] w fun e w' => ∃ v, e = .returned (.agg #[v, .int .i64 (Fr.scan s.data.toList).2.1, .int .i64 (Fr.scan s.data.toList).2.2, .int .i64 0]) ∧ w'.ownsRow w.heap.size 70 4 v (Fr.scan s.data.toList).1.length ((Fr.scan s.data.toList).1.flatMap outCells) ∧ Below w.heap.size w w' := by
  have HG := Lib.hid hg
  clear hg
  go_enter Tryz.func77, Tryz.ntmps77
  go_wp2_with fail
  refine (scanner_of s hs _).mono ?_
  rintro e w1 ⟨p, g, cap, rfl, hS, hb⟩
  have HS : Hid (Scn (w.heap.size + 1) p g cap s.data.toList 0 w1) := by simp only [World.size_alloc] at hS; exact hS
  have HB1 : Hid (Below (w.heap.size + 1) (w.alloc foO) w1) := hb.mono (by simp)
  clear hb hS
  go_wp2_with fail
  have hz1 : w.heap.size + 1 ≤ w1.heap.size := by have := HB1.out.size; simpa using this
  refine (all_any _ p g cap _ _ HS.out hz1 (fun W hW => HG.out.below (((Below.refl _ _).alloc (Nat.le_refl _) _).trans ((HB1.out.trans hW).mono (by omega))))).mono ?_
  rintro e w2 ⟨v, rfl, hown, hb⟩
  have HB2 : Hid (Below (w.heap.size + 1) (w.alloc foO) w2) := HB1.out.trans hb
  have HO := Lib.hid hown
  obtain ⟨av, nv, cv, rfl⟩ : ∃ a n c, v = .slice a n c := by
    rcases hown.2 with h | ⟨g, cp, _, e, _⟩
    · exact ⟨none, 0, 0, h.1⟩
    · exact ⟨_, _, _, e⟩
  clear hb hown HS HB1
  obtain ⟨hr, hbw, hzw⟩ := slotF HB2.out
  have HF := Lib.hid (slotF_fin hr hbw (.slice av nv cv) (.int .i64 (Fr.scan s.data.toList).2.1) (.int .i64 (Fr.scan s.data.toList).2.2) (.int .i64 0))
  obtain ⟨⟨r0, r1, r2, r3⟩, ⟨k0, k1, k2, k3⟩⟩ := slotF_cells hr
  clear hr hbw HB2
  generalize hX : Fr.scan s.data.toList = X at *
  have HX := Lib.hid hX
  clear hX
  have HO2 : Hid (((((w2.setCell ⟨w.heap.size, 0, none⟩ (.slice av nv cv)).setCell ⟨w.heap.size, 1, none⟩ (.int .i64 X.2.1)).setCell ⟨w.heap.size, 2, none⟩ (.int .i64 X.2.2)).setCell ⟨w.heap.size, 3, none⟩ (.int .i64 0)).ownsRow w.heap.size 70 4 (.slice av nv cv) X.1.length (X.1.flatMap outCells)) :=
    own_lower (B := w1.heap.size + 2) (ownsRow_set (ownsRow_set (ownsRow_set (ownsRow_set HO.out (p := ⟨w.heap.size, 0, none⟩) (by show w.heap.size < _; omega) _) (p := ⟨w.heap.size, 1, none⟩) (by show w.heap.size < _; omega) _) (p := ⟨w.heap.size, 2, none⟩) (by show w.heap.size < _; omega) _) (p := ⟨w.heap.size, 3, none⟩) (by show w.heap.size < _; omega) _) (by omega)
  clear HO
  go_wp2_with fail
  exact bodyPost_ret (v := .agg #[.slice av nv cv, .int .i64 X.2.1, .int .i64 X.2.2, .int .i64 0]) (by
    obtain ⟨⟨x0, x1, x2, x3⟩, _⟩ := HF.out
    simp only [results, Tryz.results77]
    simp [go_sem, x0, x1, x2, x3]) rfl ⟨.slice av nv cv, by rw [HX.out], by rw [HX.out]; exact HO2.out, HF.out.2⟩

set_option maxRecDepth 100000 in
set_option maxHeartbeats 2000000 in
theorem implScan_over (s : ByteArray) (hs : 20000 < s.size) (w : World) (hg : Et w) :
    Calls Tryz.prog 77 #[.string s] w fun e w' => ∃ v, e = .returned (.agg #[v, .int .i64 0, .int .i64 0, .int .i64 2]) ∧ w'.ownsRow w.heap.size 70 4 v ([] : List Fr.Out).length (([] : List Fr.Out).flatMap outCells) ∧ Below w.heap.size w w' := by
  have HG := Lib.hid hg
  clear hg
  go_enter Tryz.func77, Tryz.ntmps77
  go_wp2_with fail
  refine (scanner_over s hs _).mono ?_
  rintro e w1 ⟨rfl, hw1⟩
  rw [hw1]
  clear hw1
  go_wp2_with fail
  refine (codeOf_errV _ 2 _ (HG.out.alloc _)).mono ?_
  rintro e w2 ⟨rfl, hb⟩
  obtain ⟨hr, hbw, hzw⟩ := slotF (hb.mono (by simp))
  have HF := Lib.hid (slotF_fin hr hbw (.slice none 0 0) (.int .i64 0) (.int .i64 0) (.int .i64 2))
  obtain ⟨⟨r0, r1, r2, r3⟩, ⟨k0, k1, k2, k3⟩⟩ := slotF_cells hr
  clear hr hbw hb
  go_wp2_with fail
  exact bodyPost_ret (v := .agg #[.slice none 0 0, .int .i64 0, .int .i64 0, .int .i64 2]) (by
    obtain ⟨⟨x0, x1, x2, x3⟩, _⟩ := HF.out
    simp only [results, Tryz.results77]
    simp [go_sem, x0, x1, x2, x3]) rfl ⟨_, rfl, World.ownsRow_nil _ _ _ _, HF.out.2⟩
end Go.Proofs.YtdlojhncbgfjbaaGreatDoor
