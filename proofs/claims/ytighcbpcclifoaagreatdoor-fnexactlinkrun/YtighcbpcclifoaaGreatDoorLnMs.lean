/-
  MasterTake: the model's.
-/
import Derived.Test.YtighcbpcclifoaaGreatDoorLnMt
import Derived.Test.YtighcbpcclifoaaGreatDoorFrScan
import Derived.Test.YtighcbpcclifoaaGreatDoorLnS1
namespace Go.Proofs.YtighcbpcclifoaaGreatDoor
open Go.RowKit Go.Deep

theorem noteOf_num {u : Int} {o : Fr.Out} {n : Int} {b : Bool} (h : M.NumTo o.b n b) (hu : o.u = u) (hk : o.k = 3) (hb : b = true) (h1 : -1000000 ≤ n) (h2 : n ≤ 1000000) : Ln.noteOf u o = some (o.s, n) := noteOf_some h1 h2 hu hk (h.2.2.1 hb).symm
theorem noteOf_nonum {u : Int} {o : Fr.Out} {n : Int} {b : Bool} (h : M.NumTo o.b n b) (hb : ¬ (b = true ∧ -1000000 ≤ n ∧ n ≤ 1000000)) : Ln.noteOf u o = none := noteOf_none (fun v h1 h2 _ _ h5 => by
  obtain ⟨e1, e2⟩ := h.2.2.2 v (by omega) (by omega) h5.symm
  exact hb ⟨e2, by omega, by omega⟩)
set_option maxRecDepth 100000 in
set_option maxHeartbeats 16000000 in
theorem specTake_any (m : Ln.M) (a : Option Addr) (k : Nat) (u : Int) (t : ByteArray) (w : World) (h : IsIn a (m.notes.length * 2) (Ln.fl m.notes) w) (hn : m.notes.length ≤ 1048576) (htl : t.size ≤ 9223372036854775807) :
    Calls Tryz.prog 21 #[maV m a k, .int .i64 u, .string t] w fun e w' => MaEnd (m.take u t.data.toList) w.heap.size e w' ∧ Below w.heap.size w w' := by
  obtain ⟨i0, hi, hz0, hz1, hz2⟩ := info_parts linfo_note
  obtain ⟨W, hW⟩ : ∃ W, W = ((w.alloc (maO m a k)).alloc maZO).alloc (maO m a k) := ⟨_, rfl⟩
  have hsz : W.heap.size = w.heap.size + 3 := by rw [hW]; simp
  have HB : Hid (Below w.heap.size w W) := by show Below _ _ _; rw [hW]; exact (((Below.refl _ _).alloc (Nat.le_refl _) _).alloc (by simp) _).alloc (by simp; omega) _
  have HX : Hid (W.rowIs w.heap.size 30 3 (rowN (maL m a k))) := by show W.rowIs _ _ _ _; rw [hW]; exact nrow_below (nrow_below (rowN_alloc w (maL m a k) _) (nbel_alloc _ _)) (nbel_alloc _ _)
  have HY : Hid (W.rowIs (w.heap.size + 1) 30 3 (rowN maZ)) := by show W.rowIs _ _ _ _; rw [hW]; exact nrow_below (rowN_alloc' (by simp) maZ _) (nbel_alloc _ _)
  have HZ : Hid (W.rowIs (w.heap.size + 1 + 1) 30 3 (rowN (maL m a k))) := by show W.rowIs _ _ _ _; rw [hW]; exact rowN_alloc' (by simp) (maL m a k) _
  obtain ⟨W1, hW1⟩ : ∃ W1, W1 = W.alloc (.cells #[] 37) := ⟨_, rfl⟩
  have hsz1 : W1.heap.size = w.heap.size + 4 := by rw [hW1]; simp; omega
  have O1 : Hid (W1.ownsRow (w.heap.size + 3) 37 2 (.slice (some ⟨w.heap.size + 3, 0, none⟩) 0 0) ([] : List Ln.Nt).length (nvs [])) := by
    have := World.ownsRow_made (e := 37) (size := 2) W #[] 0 (Nat.le_refl _) (Nat.zero_le _) rfl
    rw [hsz, ← hW1] at this
    exact this
  have hb1 : Below W.heap.size W W1 := by rw [hW1]; exact nbel_alloc _ _
  have HM := Lib.hid ((h.below HB.out).below hb1)
  have HX1 := Lib.hid (nrow_below HX.out hb1)
  have HY1 := Lib.hid (nrow_below HY.out hb1)
  have HZ1 := Lib.hid (nrow_below HZ.out hb1)
  have HB1 : Hid (Below w.heap.size w W1) := HB.out.trans (hb1.mono HB.out.size)
  have HWW : Hid (W1 = (((w.alloc (maO m a k)).alloc maZO).alloc (maO m a k)).alloc (.cells #[] 37)) := by show _ = _; rw [hW1, hW]
  have HSZ1 := Lib.hid hsz1
  have HN := Lib.hid hn
  obtain ⟨⟨x0, x1, x2⟩, f0, f1, f2⟩ := rowN3 HX1.out
  clear hW hW1 hsz hsz1 h hb1 HB HX HY HZ
  rw [HWW.out] at O1 HM x1
  go_enter Tryz.func21, Tryz.ntmps21
  go_wp2_with (at_builtin; refine wpList_append_ns (l := []) (m := m.notes) rfl _ _ 26 rfl 37 i0 (.agg #[.int .i64 0, .int .i64 0]) 16 Tryz.underlying26 hi hz0 hz1 hz2 rfl (w.heap.size + 3) _ rfl O1.out a k ?c5 HM.out (by unfold maxLen; simp; omega) (by simp; omega) (by simp) ?_)
  case c5 => rfl
  intro v5 w5 hown hgrow
  rw [← HWW.out] at hgrow
  have hgb : ∀ q, q < w.heap.size + 3 → w5.heap[q]? = W1.heap[q]? := fun q hq => hgrow.block q (by rw [HSZ1.out]; omega) (by simp [Value.ownBlock]; omega)
  have HX5 : Hid (w5.rowIs w.heap.size 30 3 (rowN (maL m a k))) := HX1.out.of_block (hgb _ (by omega))
  have HY5 : Hid (w5.rowIs (w.heap.size + 1) 30 3 (rowN maZ)) := HY1.out.of_block (hgb _ (by omega))
  have HZ5 : Hid (w5.rowIs (w.heap.size + 1 + 1) 30 3 (rowN (maL m a k))) := HZ1.out.of_block (hgb _ (by omega))
  have HB5 : Hid (Below w.heap.size w w5) := HB1.out.trans ⟨hgrow.os, hgrow.tape, hgrow.output, hgrow.size, fun q hq => hgb q (by omega)⟩
  have hown2 : w5.ownsRow (w.heap.size + 3) 37 2 v5 m.notes.length (nvs m.notes) := by simpa using hown
  obtain ⟨a5, k5, rfl, _, _⟩ := own_ns hown2
  have HO5 := Lib.hid hown2
  have hs5 : w.heap.size + 3 ≤ w5.heap.size := by have := hgrow.size; rw [HSZ1.out] at this; omega
  clear hown hown2 hgrow hgb O1 HM HX1 HY1 HZ1 HB1 HWW HSZ1 x0 x1 x2 f0 f1 f2
  obtain ⟨V, hV⟩ : ∃ V, V = w5.setCell ⟨w.heap.size + 1 + 1, 1, none⟩ (.slice a5 m.notes.length k5) := ⟨_, rfl⟩
  have bV : ∀ q, q ≠ w.heap.size + 1 + 1 → V.heap[q]? = w5.heap[q]? := fun q hq => by rw [hV]; exact bihs _ _ _ hq _ _
  have SM : Hid (MaS (w.heap.size + 1 + 1) (w.heap.size + 3) (maL m a5 k5) m.notes a5 k5 V V) := ⟨by rw [hV]; exact rowN_put HZ5.out 1 _ (by simp), ownR_keep HO5.out (fun q hq _ => bV q (by have := (HO5.out.lt q hq).1; omega)), Below.refl _ _, fun _ _ _ _ h _ _ => h, by omega, by rw [hV]; simpa using hs5⟩
  have HXV : Hid (V.rowIs w.heap.size 30 3 (rowN (maL m a k))) := HX5.out.of_block (bV _ (by omega))
  have HYV : Hid (V.rowIs (w.heap.size + 1) 30 3 (rowN maZ)) := HY5.out.of_block (bV _ (by omega))
  have HBV : Hid (Below w.heap.size w V) := by show Below _ _ _; rw [hV]; exact HB5.out.setCell (p := ⟨w.heap.size + 1 + 1, _, none⟩) (by show w.heap.size ≤ w.heap.size + 1 + 1; omega) _
  have HV := Lib.hid hV
  obtain ⟨⟨zz0, zz1, zz2⟩, pp0, pp1, pp2⟩ := rowN3 HZ5.out
  obtain ⟨⟨x0, x1, x2⟩, _⟩ := rowN3 HXV.out
  obtain ⟨N0, hN0⟩ : ∃ N0, N0 = m.notes.length := ⟨_, rfl⟩
  have HN0 := Lib.hid hN0
  rw [← hN0] at x1
  have hn0 : N0 ≤ 1048576 := by rw [hN0]; exact hn
  rw [HV.out] at x0 x1 x2
  have hl2 := HZ5.out.lt
  clear hV bV hs5 HX5 HY5 HZ5 HB5 HO5 hN0
  by_cases kk0 : m.seq < 0
  · have HE : Hid (m.take u t.data.toList = m) := Ln.M.take_no (fun h => by have := h.1.1; omega)
    obtain ⟨⟨z0, z1, z2⟩, p0, p1, p2⟩ := rowN3 SM.out.row
    obtain ⟨⟨y0, y1, y2⟩, g0, g1, g2⟩ := rowN3 HYV.out
    have hl0 := HYV.out.lt
    have hl2b := SM.out.row.lt
    obtain ⟨a1', c1', e1, hq, _⟩ := own_ns SM.out.own
    cases e1
    have HQ3 := Lib.hid hq
    clear hq
    have zr := Lib.hid (lput3 HYV.out rfl (.int .i64 m.seq) (.slice a5 m.notes.length k5) (.int .i64 m.gaps))
    have zb := Lib.hid (lbel3 HBV.out (g := w.heap.size + 1) (by omega) (.int .i64 m.seq) (.slice a5 m.notes.length k5) (.int .i64 m.gaps))
    have zq : Hid (NqOwn 37 w.heap.size m.notes.length a5 (Ln.fl m.notes) ((((V.setCell ⟨w.heap.size + 1, 0, none⟩ (.int .i64 m.seq)).setCell ⟨w.heap.size + 1, 1, none⟩ (.slice a5 m.notes.length k5)).setCell ⟨w.heap.size + 1, 2, none⟩ (.int .i64 m.gaps)))) := (HQ3.out.same (fun k hk _ => lblk3 (by omega) _ _ _)).low (by omega)
    rw [HV.out] at z0 z1 z2 p0 p1 p2 y0 y1 y2 g0 g1 g2 zr zb zq hl0 hl2b
    clear HV HQ3 SM HYV HXV HBV
    go_wp2_with fail
    refine bodyPost_ret (v := maV m a5 k5) ?_ rfl ⟨by rw [HE.out]; exact ⟨a5, k5, rfl, zq.out⟩, zb.out⟩
    obtain ⟨⟨u0, u1, u2⟩, _⟩ := rowN3 zr.out
    simp only [results, Tryz.results21]
    simp [go_sem, u0, u1, u2, maV]
  by_cases kk1 : 65535 < m.seq
  · have HE : Hid (m.take u t.data.toList = m) := Ln.M.take_no (fun h => by have := h.1.1; omega)
    obtain ⟨⟨z0, z1, z2⟩, p0, p1, p2⟩ := rowN3 SM.out.row
    obtain ⟨⟨y0, y1, y2⟩, g0, g1, g2⟩ := rowN3 HYV.out
    have hl0 := HYV.out.lt
    have hl2b := SM.out.row.lt
    obtain ⟨a1', c1', e1, hq, _⟩ := own_ns SM.out.own
    cases e1
    have HQ3 := Lib.hid hq
    clear hq
    have zr := Lib.hid (lput3 HYV.out rfl (.int .i64 m.seq) (.slice a5 m.notes.length k5) (.int .i64 m.gaps))
    have zb := Lib.hid (lbel3 HBV.out (g := w.heap.size + 1) (by omega) (.int .i64 m.seq) (.slice a5 m.notes.length k5) (.int .i64 m.gaps))
    have zq : Hid (NqOwn 37 w.heap.size m.notes.length a5 (Ln.fl m.notes) ((((V.setCell ⟨w.heap.size + 1, 0, none⟩ (.int .i64 m.seq)).setCell ⟨w.heap.size + 1, 1, none⟩ (.slice a5 m.notes.length k5)).setCell ⟨w.heap.size + 1, 2, none⟩ (.int .i64 m.gaps)))) := (HQ3.out.same (fun k hk _ => lblk3 (by omega) _ _ _)).low (by omega)
    rw [HV.out] at z0 z1 z2 p0 p1 p2 y0 y1 y2 g0 g1 g2 zr zb zq hl0 hl2b
    clear HV HQ3 SM HYV HXV HBV
    go_wp2_with fail
    refine bodyPost_ret (v := maV m a5 k5) ?_ rfl ⟨by rw [HE.out]; exact ⟨a5, k5, rfl, zq.out⟩, zb.out⟩
    obtain ⟨⟨u0, u1, u2⟩, _⟩ := rowN3 zr.out
    simp only [results, Tryz.results21]
    simp [go_sem, u0, u1, u2, maV]
  by_cases kk2 : (200 : Int) < (N0 : Int)
  · have HE : Hid (m.take u t.data.toList = m) := Ln.M.take_no (fun h => by have := h.1.2.1; have := HN0.out; omega)
    obtain ⟨⟨z0, z1, z2⟩, p0, p1, p2⟩ := rowN3 SM.out.row
    obtain ⟨⟨y0, y1, y2⟩, g0, g1, g2⟩ := rowN3 HYV.out
    have hl0 := HYV.out.lt
    have hl2b := SM.out.row.lt
    obtain ⟨a1', c1', e1, hq, _⟩ := own_ns SM.out.own
    cases e1
    have HQ3 := Lib.hid hq
    clear hq
    have zr := Lib.hid (lput3 HYV.out rfl (.int .i64 m.seq) (.slice a5 m.notes.length k5) (.int .i64 m.gaps))
    have zb := Lib.hid (lbel3 HBV.out (g := w.heap.size + 1) (by omega) (.int .i64 m.seq) (.slice a5 m.notes.length k5) (.int .i64 m.gaps))
    have zq : Hid (NqOwn 37 w.heap.size m.notes.length a5 (Ln.fl m.notes) ((((V.setCell ⟨w.heap.size + 1, 0, none⟩ (.int .i64 m.seq)).setCell ⟨w.heap.size + 1, 1, none⟩ (.slice a5 m.notes.length k5)).setCell ⟨w.heap.size + 1, 2, none⟩ (.int .i64 m.gaps)))) := (HQ3.out.same (fun k hk _ => lblk3 (by omega) _ _ _)).low (by omega)
    rw [HV.out] at z0 z1 z2 p0 p1 p2 y0 y1 y2 g0 g1 g2 zr zb zq hl0 hl2b
    clear HV HQ3 SM HYV HXV HBV
    go_wp2_with fail
    refine bodyPost_ret (v := maV m a5 k5) ?_ rfl ⟨by rw [HE.out]; exact ⟨a5, k5, rfl, zq.out⟩, zb.out⟩
    obtain ⟨⟨u0, u1, u2⟩, _⟩ := rowN3 zr.out
    simp only [results, Tryz.results21]
    simp [go_sem, u0, u1, u2, maV]
  by_cases kk3 : m.gaps < 0
  · have HE : Hid (m.take u t.data.toList = m) := Ln.M.take_no (fun h => by have := h.1.2.2; omega)
    obtain ⟨⟨z0, z1, z2⟩, p0, p1, p2⟩ := rowN3 SM.out.row
    obtain ⟨⟨y0, y1, y2⟩, g0, g1, g2⟩ := rowN3 HYV.out
    have hl0 := HYV.out.lt
    have hl2b := SM.out.row.lt
    obtain ⟨a1', c1', e1, hq, _⟩ := own_ns SM.out.own
    cases e1
    have HQ3 := Lib.hid hq
    clear hq
    have zr := Lib.hid (lput3 HYV.out rfl (.int .i64 m.seq) (.slice a5 m.notes.length k5) (.int .i64 m.gaps))
    have zb := Lib.hid (lbel3 HBV.out (g := w.heap.size + 1) (by omega) (.int .i64 m.seq) (.slice a5 m.notes.length k5) (.int .i64 m.gaps))
    have zq : Hid (NqOwn 37 w.heap.size m.notes.length a5 (Ln.fl m.notes) ((((V.setCell ⟨w.heap.size + 1, 0, none⟩ (.int .i64 m.seq)).setCell ⟨w.heap.size + 1, 1, none⟩ (.slice a5 m.notes.length k5)).setCell ⟨w.heap.size + 1, 2, none⟩ (.int .i64 m.gaps)))) := (HQ3.out.same (fun k hk _ => lblk3 (by omega) _ _ _)).low (by omega)
    rw [HV.out] at z0 z1 z2 p0 p1 p2 y0 y1 y2 g0 g1 g2 zr zb zq hl0 hl2b
    clear HV HQ3 SM HYV HXV HBV
    go_wp2_with fail
    refine bodyPost_ret (v := maV m a5 k5) ?_ rfl ⟨by rw [HE.out]; exact ⟨a5, k5, rfl, zq.out⟩, zb.out⟩
    obtain ⟨⟨u0, u1, u2⟩, _⟩ := rowN3 zr.out
    simp only [results, Tryz.results21]
    simp [go_sem, u0, u1, u2, maV]
  by_cases kk4 : 1000000000 < m.gaps
  · have HE : Hid (m.take u t.data.toList = m) := Ln.M.take_no (fun h => by have := h.1.2.2; omega)
    obtain ⟨⟨z0, z1, z2⟩, p0, p1, p2⟩ := rowN3 SM.out.row
    obtain ⟨⟨y0, y1, y2⟩, g0, g1, g2⟩ := rowN3 HYV.out
    have hl0 := HYV.out.lt
    have hl2b := SM.out.row.lt
    obtain ⟨a1', c1', e1, hq, _⟩ := own_ns SM.out.own
    cases e1
    have HQ3 := Lib.hid hq
    clear hq
    have zr := Lib.hid (lput3 HYV.out rfl (.int .i64 m.seq) (.slice a5 m.notes.length k5) (.int .i64 m.gaps))
    have zb := Lib.hid (lbel3 HBV.out (g := w.heap.size + 1) (by omega) (.int .i64 m.seq) (.slice a5 m.notes.length k5) (.int .i64 m.gaps))
    have zq : Hid (NqOwn 37 w.heap.size m.notes.length a5 (Ln.fl m.notes) ((((V.setCell ⟨w.heap.size + 1, 0, none⟩ (.int .i64 m.seq)).setCell ⟨w.heap.size + 1, 1, none⟩ (.slice a5 m.notes.length k5)).setCell ⟨w.heap.size + 1, 2, none⟩ (.int .i64 m.gaps)))) := (HQ3.out.same (fun k hk _ => lblk3 (by omega) _ _ _)).low (by omega)
    rw [HV.out] at z0 z1 z2 p0 p1 p2 y0 y1 y2 g0 g1 g2 zr zb zq hl0 hl2b
    clear HV HQ3 SM HYV HXV HBV
    go_wp2_with fail
    refine bodyPost_ret (v := maV m a5 k5) ?_ rfl ⟨by rw [HE.out]; exact ⟨a5, k5, rfl, zq.out⟩, zb.out⟩
    obtain ⟨⟨u0, u1, u2⟩, _⟩ := rowN3 zr.out
    simp only [results, Tryz.results21]
    simp [go_sem, u0, u1, u2, maV]
  by_cases kk5 : (20000 : Int) < (t.size : Int)
  · have HE : Hid (m.take u t.data.toList = m) := Ln.M.take_no (fun h => by have e : t.data.toList.length = t.size := rfl; have := h.2; omega)
    obtain ⟨⟨z0, z1, z2⟩, p0, p1, p2⟩ := rowN3 SM.out.row
    obtain ⟨⟨y0, y1, y2⟩, g0, g1, g2⟩ := rowN3 HYV.out
    have hl0 := HYV.out.lt
    have hl2b := SM.out.row.lt
    obtain ⟨a1', c1', e1, hq, _⟩ := own_ns SM.out.own
    cases e1
    have HQ3 := Lib.hid hq
    clear hq
    have zr := Lib.hid (lput3 HYV.out rfl (.int .i64 m.seq) (.slice a5 m.notes.length k5) (.int .i64 m.gaps))
    have zb := Lib.hid (lbel3 HBV.out (g := w.heap.size + 1) (by omega) (.int .i64 m.seq) (.slice a5 m.notes.length k5) (.int .i64 m.gaps))
    have zq : Hid (NqOwn 37 w.heap.size m.notes.length a5 (Ln.fl m.notes) ((((V.setCell ⟨w.heap.size + 1, 0, none⟩ (.int .i64 m.seq)).setCell ⟨w.heap.size + 1, 1, none⟩ (.slice a5 m.notes.length k5)).setCell ⟨w.heap.size + 1, 2, none⟩ (.int .i64 m.gaps)))) := (HQ3.out.same (fun k hk _ => lblk3 (by omega) _ _ _)).low (by omega)
    rw [HV.out] at z0 z1 z2 p0 p1 p2 y0 y1 y2 g0 g1 g2 zr zb zq hl0 hl2b
    clear HV HQ3 SM HYV HXV HBV
    go_wp2_with fail
    refine bodyPost_ret (v := maV m a5 k5) ?_ rfl ⟨by rw [HE.out]; exact ⟨a5, k5, rfl, zq.out⟩, zb.out⟩
    obtain ⟨⟨u0, u1, u2⟩, _⟩ := rowN3 zr.out
    simp only [results, Tryz.results21]
    simp [go_sem, u0, u1, u2, maV]
  have HMR : Hid m.Right := ⟨⟨by omega, by omega⟩, by have := HN0.out; omega, by omega, by omega⟩
  have hts : t.size ≤ 20000 := by omega
  have HTS : Hid (t.data.toList.length ≤ 20000) := hts
  go_wp2_with fail
  rw [← HV.out]
  clear HV x0 x1 x2 zz0 zz1 zz2 pp0 pp1 pp2 hl2
  refine (specScan_any t hts _).mono ?_
  rintro e W4 ⟨v4, rfl, hown4, hb⟩
  obtain ⟨os, hos⟩ : ∃ os, os = (Fr.scan t.data.toList).1 := ⟨_, rfl⟩
  rw [← hos] at hown4
  obtain ⟨fa, fc, rfl, hfr⟩ := fr_row hown4 rfl
  have HGD : Hid (∀ o ∈ os, Ln.Good o) := by show ∀ o ∈ os, _; rw [hos]; exact Ln.scan_good _
  have HE : Hid (m.take u t.data.toList = os.foldl (Ln.M.frame u) m) := by show _ = _; rw [hos]; exact Ln.M.take_yes HMR.out HTS.out
  have SM4 := Lib.hid (SM.out.below hb)
  have HY4 := Lib.hid (nrow_below HYV.out hb)
  have HB4 : Hid (Below w.heap.size w W4) := HBV.out.trans (hb.mono HBV.out.size)
  have HFR : Hid (os.length = 0 ∨ ∃ g M F, fa = some ⟨g, 0, none⟩ ∧ g ≠ w.heap.size + 1 + 1 ∧ W4.rowIs g 85 M F ∧ os.length * 4 ≤ M ∧ ∀ i (hi : i < os.length), F (i * 4) = .int .i64 os[i].u ∧ F (i * 4 + 1) = .int .i64 os[i].k ∧ F (i * 4 + 2) = .int .i64 os[i].s ∧ F (i * 4 + 3) = .string ⟨os[i].b.toArray⟩) := by
    rcases hfr with h | ⟨g, M, F, h1, h2, h3⟩
    · exact Or.inl h
    · exact Or.inr ⟨g, M, F, h1, by have := SM.out.row.lt; omega, h3⟩
  have hosl : os.length ≤ 20000 := by rw [hos]; have := scan_len t.data.toList; have := HTS.out; omega
  obtain ⟨N, hN⟩ : ∃ N, N = os.length := ⟨_, rfl⟩
  have HNN := Lib.hid hN
  rw [← hN] at hosl ⊢
  clear hb hos hown4 hfr hN SM HYV HXV HBV hts
  have hfd := fun x y => frames_field fa N fc x y 0
  go_wp2_with fail
  clear hfd
  go_loopw [9, 10, 11] (fun iv _ _ wr => ∃ (i : Nat) (mi : Ln.M) (ai : Option Addr) (ki : Nat), i ≤ N ∧ iv = .int .i64 i ∧ Hid (mi = (os.take i).foldl (Ln.M.frame u) m) ∧ Hid mi.Mid ∧ Hid (MaS (w.heap.size + 1 + 1) (w.heap.size + 3) (maL mi ai ki) mi.notes ai ki W4 wr)) (fun iv _ _ _ => N - (intOf iv).toNat)
  case atStart => exact ⟨0, m, a5, k5, Nat.zero_le _, rfl, rfl, HMR.out.mid, ⟨SM4.out.row, SM4.out.own, Below.refl _ _, fun _ _ _ _ h _ _ => h, SM4.out.num⟩⟩
  case round =>
    obtain ⟨i, mi, ai, ki, hiN, rfl, hmi, hmid, hS⟩ := hrel
    by_cases hlt : i < N
    · have hltz : (i : Int) < (N : Int) := by omega
      have HIL : i < os.length := by rw [← HNN.out]; exact hlt
      obtain ⟨g, M, F, hfa, hgp, hFr, hM, hFc⟩ : ∃ g M F, fa = some ⟨g, 0, none⟩ ∧ g ≠ w.heap.size + 1 + 1 ∧ W4.rowIs g 85 M F ∧ os.length * 4 ≤ M ∧ ∀ i (hi : i < os.length), F (i * 4) = .int .i64 os[i].u ∧ F (i * 4 + 1) = .int .i64 os[i].k ∧ F (i * 4 + 2) = .int .i64 os[i].s ∧ F (i * 4 + 3) = .string ⟨os[i].b.toArray⟩ := by
        rcases HFR.out with h | h
        · omega
        · exact h
      obtain ⟨o, ho⟩ : ∃ o, o = os[i] := ⟨_, rfl⟩
      have HGO : Hid (Ln.Good o) := by show Ln.Good o; rw [ho]; exact HGD.out _ (List.getElem_mem HIL)
      have hmi1 : Hid (Ln.M.frame u mi o = (os.take (i + 1)).foldl (Ln.M.frame u) m) := by show _ = _; rw [fold_take u os m i HIL, ← hmi.out, ho]
      obtain ⟨c0, c1, c2, c3⟩ := hFc i HIL
      rw [← ho] at c0 c1 c2 c3
      have HQ : Hid (∀ Y : World, Y.rowIs g 85 M F → Y.cell? ⟨g, i * 4, none⟩ = some (.int .i64 o.u) ∧ Y.cell? ⟨g, i * 4 + 1, none⟩ = some (.int .i64 o.k) ∧ Y.cell? ⟨g, i * 4 + 2, none⟩ = some (.int .i64 o.s) ∧ Y.cell? ⟨g, i * 4 + 3, none⟩ = some (.string ⟨o.b.toArray⟩)) := fun Y hy => ⟨by rw [hy.cell (i := i * 4) (by omega), c0], by rw [hy.cell (i := i * 4 + 1) (by omega), c1], by rw [hy.cell (i := i * 4 + 2) (by omega), c2], by rw [hy.cell (i := i * 4 + 3) (by omega), c3]⟩
      have HFRW : Hid (W4.rowIs g 85 M F) := hFr
      have HGP : Hid (g ≠ w.heap.size + 1 + 1) := hgp
      obtain ⟨q0, q1, q2, q3⟩ := HQ.out _ (hS.out.oth g _ _ _ hFr (by decide) hgp)
      subst hfa
      clear c0 c1 c2 c3 hFr hM hFc HIL ho hgp
      go_wp2_with fail
      refine (num_any ⟨o.b.toArray⟩ _).mono ?_
      rintro e w5 ⟨hE, hb⟩
      have hE' : NumEnd o.b e := hE
      obtain ⟨n, b, hnum, rfl⟩ := hE'
      have HNU := Lib.hid hnum
      have nb1 := hnum.1
      have nb2 := hnum.2.1
      have SV5 := Lib.hid (hS.out.below hb)
      clear hE hb hS q0 q1 q2 q3 hnum
      obtain ⟨ML, hML⟩ : ∃ ML, ML = mi.notes.length := ⟨_, rfl⟩
      have HML := Lib.hid hML
      have hml : ML ≤ 200 := by rw [hML]; exact hmid.out.2.1
      have hmlz : (ML : Int) ≤ 200 := by omega
      obtain ⟨⟨mm1, mm2⟩, _, mm4, mm5⟩ := hmid.out
      have hgo := HGO.out
      obtain ⟨go1, go2, _⟩ := hgo
      clear hML
      obtain ⟨⟨z0, z1, z2⟩, p0, p1, p2⟩ := rowN3 SV5.out.row
      rw [← HML.out] at z1
      obtain ⟨q0, q1, q2, q3⟩ := HQ.out _ (SV5.out.oth g _ _ _ HFRW.out (by decide) HGP.out)
      have KV := Lib.hid (fun wx => sval19_any n wx)
      have HDR : Hid (∀ nq, MaS (w.heap.size + 1 + 1) (w.heap.size + 3) (maL mi ai ki) mi.notes ai ki W4 (w5.drewN nq)) := fun nq => SV5.out.below (ndrewN (Below.refl _ _) nq)
      by_cases e1 : o.u = u
      case neg =>
        have d1 : (o.u != u) = true := by simpa using e1
        have HFE : Hid (Ln.M.frame u mi o = mi) := by show _ = _; unfold Ln.M.frame; rw [noteOf_none (fun _ _ _ h _ _ => e1 h)]
        go_wp2_with fail
        go_quiet (fail)
        go_wp2_with fail
        go_roundw
        case rel => exact ⟨i + 1, mi, ai, ki, by omega, by go_num, by rw [← HFE.out]; exact hmi1, hmid, HDR.out _⟩
        case measure => simp [intOf]; omega
      have d1 : (o.u != u) = false := by simpa using e1
      by_cases e2 : o.k = 3
      case neg =>
        have d2 : (o.k != 3) = true := by simpa using e2
        have HFE : Hid (Ln.M.frame u mi o = mi) := by show _ = _; unfold Ln.M.frame; rw [noteOf_none (fun _ _ _ _ h _ => e2 h)]
        go_wp2_with fail
        go_quiet (fail)
        go_wp2_with fail
        go_roundw
        case rel => exact ⟨i + 1, mi, ai, ki, by omega, by go_num, by rw [← HFE.out]; exact hmi1, hmid, HDR.out _⟩
        case measure => simp [intOf]; omega
      have d2 : (o.k != 3) = false := by simpa using e2
      cases b with
      | false =>
        clear e1 e2
        have HFE : Hid (Ln.M.frame u mi o = mi) := by show _ = _; unfold Ln.M.frame; rw [noteOf_nonum HNU.out (fun h => by have := h.1; cases this)]
        go_wp2_with fail
        go_quiet (fail)
        go_wp2_with fail
        go_roundw
        case rel => exact ⟨i + 1, mi, ai, ki, by omega, by go_num, by rw [← HFE.out]; exact hmi1, hmid, HDR.out _⟩
        case measure => simp [intOf]; omega
      | true =>
        by_cases e3 : -1000000 ≤ n ∧ n ≤ 1000000
        case neg =>
          rw [decide_eq_false e3] at KV
          have HFE : Hid (Ln.M.frame u mi o = mi) := by show _ = _; unfold Ln.M.frame; rw [noteOf_nonum HNU.out (fun h => e3 h.2)]
          clear e1 e2 e3
          go_wp2_with fail
          go_quiet ((go_at_call 19; exact Calls.quiet_of_same (KV.out _)))
          go_wp2_with fail
          go_roundw
          case rel => exact ⟨i + 1, mi, ai, ki, by omega, by go_num, by rw [← HFE.out]; exact hmi1, hmid, HDR.out _⟩
          case measure => simp [intOf]; omega
        rw [decide_eq_true e3] at KV
        have HNO : Hid (Ln.noteOf u o = some (o.s, n)) := noteOf_num HNU.out e1 e2 rfl e3.1 e3.2
        clear e1 e2 e3
        by_cases e4 : o.s ≤ mi.seq
        · have d4 : decide (o.s ≤ mi.seq) = true := by simpa using e4
          have HFE : Hid (Ln.M.frame u mi o = mi) := by show _ = _; unfold Ln.M.frame; rw [HNO.out]; show mi.put (o.s, n) = mi; unfold Ln.M.put; rw [if_neg (fun h => by have := h.1; simp only at this; omega)]
          go_wp2_with fail
          go_quiet ((go_at_call 19; exact Calls.quiet_of_same (KV.out _)))
          go_wp2_with fail
          go_roundw
          case rel => exact ⟨i + 1, mi, ai, ki, by omega, by go_num, by rw [← HFE.out]; exact hmi1, hmid, HDR.out _⟩
          case measure => simp [intOf]; omega
        have d4 : decide (o.s ≤ mi.seq) = false := by simpa using e4
        by_cases e5 : 200 ≤ ML
        · have d5 : decide ((200 : Int) ≤ (ML : Int)) = true := by simp; omega
          have HFE : Hid (Ln.M.frame u mi o = mi) := by show _ = _; unfold Ln.M.frame; rw [HNO.out]; show mi.put (o.s, n) = mi; unfold Ln.M.put; rw [if_neg (fun h => by have := h.2; have := HML.out; omega)]
          go_wp2_with fail
          go_quiet ((go_at_call 19; exact Calls.quiet_of_same (KV.out _)))
          go_wp2_with fail
          go_roundw
          case rel => exact ⟨i + 1, mi, ai, ki, by omega, by go_num, by rw [← HFE.out]; exact hmi1, hmid, HDR.out _⟩
          case measure => simp [intOf]; omega
        have d5 : decide ((200 : Int) ≤ (ML : Int)) = false := by simp; omega
        have HFE : Hid (Ln.M.frame u mi o = ⟨o.s, mi.notes ++ [(o.s, n)], mi.gaps + o.s - mi.seq - 1⟩) := by show _ = _; unfold Ln.M.frame; rw [HNO.out]; show mi.put (o.s, n) = _; unfold Ln.M.put; rw [if_pos ⟨by simp only; omega, by have := HML.out; omega⟩]
        have HMID : Hid (Ln.M.Mid ⟨o.s, mi.notes ++ [(o.s, n)], mi.gaps + o.s - mi.seq - 1⟩) := by show Ln.M.Mid _; rw [← HFE.out]; exact hmid.out.frame HGO.out
        go_wp2_with fail
        go_quiet ((go_at_call 19; exact Calls.quiet_of_same (KV.out _)))
        obtain ⟨V6, hV6⟩ : ∃ V6, V6 = w5.drewN nq := ⟨_, rfl⟩
        have S6 : Hid (MaS (w.heap.size + 1 + 1) (w.heap.size + 3) (maL mi ai ki) mi.notes ai ki W4 V6) := by show MaS _ _ _ _ _ _ _ _; rw [hV6]; exact HDR.out _
        rw [← hV6]
        clear hV6 HDR SV5 z0 z1 z2 p0 p1 p2 q0 q1 q2 q3 KV d1 d2 d4 d5
        go_wp2_with fail
        refine wp_region_held_drew (S := fun Y => Y.rowIs g 85 M F) (by kernel_rfl) ((S6.out.oth g _ _ _ HFRW.out (by decide) HGP.out).of_block rfl) (fun hHeld => ?_)
        obtain ⟨Z, hZ⟩ : ∃ Z, Z = V6.drew := ⟨_, rfl⟩
        have SZ : Hid (MaS (w.heap.size + 1 + 1) (w.heap.size + 3) (maL mi ai ki) mi.notes ai ki W4 Z) := by show MaS _ _ _ _ _ _ _ _; rw [hZ]; exact S6.out.below (Below.refl _ _).drew
        rw [← hZ] at hHeld ⊢
        clear hZ S6
        refine take_do (i := 0) (v := (.pointer (some ⟨w.heap.size + 1 + 1, 1, none⟩))) rfl (by kernel_rfl) (by kernel_rfl) (by kernel_rfl) (fun _ _ _ h => h) (by rfl) ?_ (by assumption) ?_
        · intro w hSw
          go_simp
        simp only [Act.put, List.setIfInBounds_toArray, List.set_cons_zero, List.set_cons_succ]
        refine take_do (i := 2) (v := (.slice (some ⟨g, 0, none⟩) N fc)) rfl (by kernel_rfl) (by kernel_rfl) (by kernel_rfl) (fun _ _ _ h => h) (by rfl) ?_ (by assumption) ?_
        · intro w hSw
          go_simp
        simp only [Act.put, List.setIfInBounds_toArray, List.set_cons_zero, List.set_cons_succ]
        refine take_do (i := 3) (v := (.int .i64 i)) rfl (by kernel_rfl) (by kernel_rfl) (by kernel_rfl) (fun _ _ _ h => h) (by rfl) ?_ (by assumption) ?_
        · intro w hSw
          go_simp
        simp only [Act.put, List.setIfInBounds_toArray, List.set_cons_zero, List.set_cons_succ]
        refine take_do (i := 4) (v := (.pointer (some ⟨g, i * 4, none⟩))) rfl (by kernel_rfl) (by kernel_rfl) (by kernel_rfl) (fun _ _ _ h => h) (by rfl) ?_ (by assumption) ?_
        · intro w hSw
          go_simp
        simp only [Act.put, List.setIfInBounds_toArray, List.set_cons_zero, List.set_cons_succ]
        refine take_do (i := 5) (v := (.pointer (some ⟨g, i * 4 + 2, none⟩))) rfl (by kernel_rfl) (by kernel_rfl) (by kernel_rfl) (fun _ _ _ h => h) (by rfl) ?_ (by assumption) ?_
        · intro w hSw
          go_simp
        simp only [Act.put, List.setIfInBounds_toArray, List.set_cons_zero, List.set_cons_succ]
        refine take_do (i := 6) (v := (.int .i64 o.s)) rfl (by kernel_rfl) (by kernel_rfl) (by kernel_rfl) (fun _ _ _ h => h) (by rfl) ?_ (by assumption) ?_
        · intro w hSw
          obtain ⟨q0, q1, q2, q3⟩ := HQ.out _ hSw
          go_simp
        simp only [Act.put, List.setIfInBounds_toArray, List.set_cons_zero, List.set_cons_succ]
        refine take_do (i := 7) (v := (.int .i64 n)) rfl (by kernel_rfl) (by kernel_rfl) (by kernel_rfl) (fun _ _ _ h => h) (by rfl) ?_ (by assumption) ?_
        · intro w hSw
          go_simp
        simp only [Act.put, List.setIfInBounds_toArray, List.set_cons_zero, List.set_cons_succ]
        refine take_do (i := 8) (v := (.agg #[.int .i64 o.s, .int .i64 n])) rfl (by kernel_rfl) (by kernel_rfl) (by kernel_rfl) (fun _ _ _ h => h) (by rfl) ?_ (by assumption) ?_
        · intro w hSw
          go_simp
        simp only [Act.put, List.setIfInBounds_toArray, List.set_cons_zero, List.set_cons_succ]
        refine wpAnyH_ready (rs := [1, 9]) (by kernel_rfl) (by simp) (AllReadyH.cons (at_drop (i := 1) rfl) (fun K2 hK => ?_) (AllReadyH.cons (at_drop (i := 9) rfl) (fun K2 hK => ?_) AllReadyH.nil))
        · obtain ⟨⟨x0, x1, x2⟩, _⟩ := rowN3 SZ.out.row
          rw [← HML.out] at x1
          go_simp
          refine hK.out _ _ hHeld (fun hHeld2 => ?_)
          clear hK hHeld x0 x1 x2
          have hHeld := hHeld2
          clear hHeld2
          refine take_call (i := 9) rfl (by kernel_rfl) (fun K2 hK => ?_)
          obtain ⟨Z1, hZ1⟩ : ∃ Z1, Z1 = Z.alloc (.cells #[.int .i64 o.s, .int .i64 n] 37) := ⟨_, rfl⟩
          have hb : Below Z.heap.size Z Z1 := by rw [hZ1]; exact nbel_alloc _ _
          obtain ⟨gx, hgx⟩ : ∃ gx, gx = Z.heap.size := ⟨_, rfl⟩
          have HM1 : Hid (IsIn (some ⟨gx, 0, none⟩) (([(o.s, n)] : List Ln.Nt).length * 2) (Ln.fl [(o.s, n)]) Z1) := by show IsIn _ _ _ _; rw [hZ1, hgx]; exact one_in Z 37 o.s n
          have SZ1 := Lib.hid (SZ.out.below hb)
          go_simp
          rw [← hZ1, ← hgx]
          refine hK.out _ _ (nrow_below hHeld hb) (fun hHeld2 => ?_)
          clear hK hHeld hb hZ1 hgx
          have hHeld := hHeld2
          clear hHeld2
          refine take_call (i := 10) rfl (by kernel_rfl) (fun K2 hK => ?_)
          refine step_append_ns rfl (.tmp 107) (.tmp 115) 26 rfl 37 i0 (.agg #[.int .i64 0, .int .i64 0]) 16 Tryz.underlying26 hi hz0 hz1 hz2 rfl (w.heap.size + 3) (.slice ai ML ki) mi.notes [(o.s, n)] rfl (by rw [HML.out]; exact SZ1.out.own) (some ⟨gx, 0, none⟩) 1 rfl HM1.out (by unfold maxLen; rw [← HML.out]; simp; omega) (by rw [← HML.out]; simp; omega) SZ1.out.num.2 ?_
          intro v6 Z2 hown hgrow
          obtain ⟨L2, hL2⟩ : ∃ L2, L2 = mi.notes ++ [(o.s, n)] := ⟨_, rfl⟩
          have hown2 : Z2.ownsRow (w.heap.size + 3) 37 2 v6 L2.length (nvs L2) := by rw [hL2]; exact hown
          rw [HML.out] at hgrow
          obtain ⟨a6, k6, rfl, _, _⟩ := own_ns hown2
          have S5 := Lib.hid (SZ1.out.push hgrow hown2)
          refine hK.out _ _ (S5.out.oth g _ _ _ HFRW.out (by decide) HGP.out) (fun hHeld2 => ?_)
          clear hK hHeld hown hown2 hgrow SZ SZ1 HM1
          have hHeld := hHeld2
          clear hHeld2
          simp only [Act.put, List.setIfInBounds_toArray, List.set_cons_zero, List.set_cons_succ]
          refine take_do (i := 11) (v := (.pointer (some ⟨w.heap.size + 1 + 1, 1, none⟩))) rfl (by kernel_rfl) (by kernel_rfl) (by kernel_rfl) (fun _ _ _ h => h) (by rfl) ?_ (by assumption) ?_
          · intro w hSw
            go_simp
          simp only [Act.put, List.setIfInBounds_toArray, List.set_cons_zero, List.set_cons_succ]
          obtain ⟨⟨z0, z1, z2⟩, p0, p1, p2⟩ := rowN3 S5.out.row
          have hl2 := S5.out.row.lt
          obtain ⟨WZ, hWZ⟩ : ∃ WZ, WZ = Z2.setCell ⟨w.heap.size + 1 + 1, 1, none⟩ (.slice a6 L2.length k6) := ⟨_, rfl⟩
          have S7 : Hid (MaS (w.heap.size + 1 + 1) (w.heap.size + 3) [.int .i64 mi.seq, .slice a6 L2.length k6, .int .i64 mi.gaps] L2 a6 k6 W4 WZ) := by show MaS _ _ _ _ _ _ _ _; rw [hWZ]; exact S5.out.set 1 _ (by simp)
          have HWZ := Lib.hid hWZ
          have HL2 := Lib.hid hL2
          obtain ⟨M2, hM2⟩ : ∃ M2, M2 = L2.length := ⟨_, rfl⟩
          have HM2 := Lib.hid hM2
          rw [← hM2] at HWZ ⊢
          clear hWZ hL2 hM2
          refine take_call (i := 12) rfl (by kernel_rfl) (fun K2 hK => ?_)
          go_simp
          rw [← HWZ.out]
          refine hK.out _ _ (S7.out.oth g _ _ _ HFRW.out (by decide) HGP.out) (fun hHeld2 => ?_)
          clear hK hHeld hHeld2 HWZ z0 z1 z2 p0 p1 p2 hl2 S5
          refine wpAnyH_done (by kernel_rfl) ?_ _
          obtain ⟨⟨z0, z1, z2⟩, p0, p1, p2⟩ := rowN3 S7.out.row
          rw [← HM2.out] at z1
          obtain ⟨q0, q1, q2, q3⟩ := HQ.out _ (S7.out.oth g _ _ _ HFRW.out (by decide) HGP.out)
          have hl2 := S7.out.row.lt
          have hl3 := (S7.out.oth g _ _ _ HFRW.out (by decide) HGP.out).lt
          have hgx2 : ¬ g = w.heap.size + 1 + 1 := HGP.out
          have hgx3 : ¬ w.heap.size + 1 + 1 = g := fun e => HGP.out e.symm
          have r1 : IntKind.i64.wrap (mi.gaps + o.s) = mi.gaps + o.s := lnwrap (by omega) (by omega)
          have r2 : IntKind.i64.wrap (mi.gaps + o.s - mi.seq) = mi.gaps + o.s - mi.seq := lnwrap (by omega) (by omega)
          have r3 : IntKind.i64.wrap (mi.gaps + o.s - mi.seq - 1) = mi.gaps + o.s - mi.seq - 1 := lnwrap (by omega) (by omega)
          go_wp2_with fail
          go_region
          obtain ⟨U, hU⟩ : ∃ U, U = (WZ.setCell ⟨w.heap.size + 1 + 1, 2, none⟩ (.int .i64 (mi.gaps + o.s - mi.seq - 1))).drew := ⟨_, rfl⟩
          rw [← hU]
          have S8 : Hid (MaS (w.heap.size + 1 + 1) (w.heap.size + 3) [.int .i64 mi.seq, .slice a6 L2.length k6, .int .i64 (mi.gaps + o.s - mi.seq - 1)] L2 a6 k6 W4 U) := by show MaS _ _ _ _ _ _ _ _; rw [hU]; exact (S7.out.set 2 _ (by simp)).below (Below.refl _ _).drew
          clear hU S7 z0 z1 z2 p0 p1 p2 q0 q1 q2 q3 hl2 hl3
          obtain ⟨⟨z0, z1, z2⟩, p0, p1, p2⟩ := rowN3 S8.out.row
          obtain ⟨q0, q1, q2, q3⟩ := HQ.out _ (S8.out.oth g _ _ _ HFRW.out (by decide) HGP.out)
          have hl2 := S8.out.row.lt
          obtain ⟨U2, hU2⟩ : ∃ U2, U2 = U.setCell ⟨w.heap.size + 1 + 1, 0, none⟩ (.int .i64 o.s) := ⟨_, rfl⟩
          have S9 : Hid (MaS (w.heap.size + 1 + 1) (w.heap.size + 3) [.int .i64 o.s, .slice a6 L2.length k6, .int .i64 (mi.gaps + o.s - mi.seq - 1)] L2 a6 k6 W4 U2) := by show MaS _ _ _ _ _ _ _ _; rw [hU2]; exact S8.out.set 0 _ (by simp)
          have HU2 := Lib.hid hU2
          clear hU2 S8
          go_wp2_with fail
          rw [← HU2.out]
          rw [HL2.out] at S9
          clear HU2 z0 z1 z2 p0 p1 p2 q0 q1 q2 q3 hl2
          go_roundw
          case rel => exact ⟨i + 1, ⟨o.s, mi.notes ++ [(o.s, n)], mi.gaps + o.s - mi.seq - 1⟩, a6, k6, by omega, by go_num, by rw [← HFE.out]; exact hmi1, HMID, S9⟩
          case measure => simp [intOf]; omega
        · obtain ⟨Z1, hZ1⟩ : ∃ Z1, Z1 = Z.alloc (.cells #[.int .i64 o.s, .int .i64 n] 37) := ⟨_, rfl⟩
          have hb : Below Z.heap.size Z Z1 := by rw [hZ1]; exact nbel_alloc _ _
          obtain ⟨gx, hgx⟩ : ∃ gx, gx = Z.heap.size := ⟨_, rfl⟩
          have HM1 : Hid (IsIn (some ⟨gx, 0, none⟩) (([(o.s, n)] : List Ln.Nt).length * 2) (Ln.fl [(o.s, n)]) Z1) := by show IsIn _ _ _ _; rw [hZ1, hgx]; exact one_in Z 37 o.s n
          have SZ1 := Lib.hid (SZ.out.below hb)
          go_simp
          rw [← hZ1, ← hgx]
          refine hK.out _ _ (nrow_below hHeld hb) (fun hHeld2 => ?_)
          clear hK hHeld hb hZ1 hgx
          have hHeld := hHeld2
          clear hHeld2
          refine take_call (i := 1) rfl (by kernel_rfl) (fun K2 hK => ?_)
          obtain ⟨⟨x0, x1, x2⟩, _⟩ := rowN3 SZ1.out.row
          rw [← HML.out] at x1
          go_simp
          refine hK.out _ _ hHeld (fun hHeld2 => ?_)
          clear hK hHeld x0 x1 x2
          have hHeld := hHeld2
          clear hHeld2
          refine take_call (i := 10) rfl (by kernel_rfl) (fun K2 hK => ?_)
          refine step_append_ns rfl (.tmp 107) (.tmp 115) 26 rfl 37 i0 (.agg #[.int .i64 0, .int .i64 0]) 16 Tryz.underlying26 hi hz0 hz1 hz2 rfl (w.heap.size + 3) (.slice ai ML ki) mi.notes [(o.s, n)] rfl (by rw [HML.out]; exact SZ1.out.own) (some ⟨gx, 0, none⟩) 1 rfl HM1.out (by unfold maxLen; rw [← HML.out]; simp; omega) (by rw [← HML.out]; simp; omega) SZ1.out.num.2 ?_
          intro v6 Z2 hown hgrow
          obtain ⟨L2, hL2⟩ : ∃ L2, L2 = mi.notes ++ [(o.s, n)] := ⟨_, rfl⟩
          have hown2 : Z2.ownsRow (w.heap.size + 3) 37 2 v6 L2.length (nvs L2) := by rw [hL2]; exact hown
          rw [HML.out] at hgrow
          obtain ⟨a6, k6, rfl, _, _⟩ := own_ns hown2
          have S5 := Lib.hid (SZ1.out.push hgrow hown2)
          refine hK.out _ _ (S5.out.oth g _ _ _ HFRW.out (by decide) HGP.out) (fun hHeld2 => ?_)
          clear hK hHeld hown hown2 hgrow SZ SZ1 HM1
          have hHeld := hHeld2
          clear hHeld2
          simp only [Act.put, List.setIfInBounds_toArray, List.set_cons_zero, List.set_cons_succ]
          refine take_do (i := 11) (v := (.pointer (some ⟨w.heap.size + 1 + 1, 1, none⟩))) rfl (by kernel_rfl) (by kernel_rfl) (by kernel_rfl) (fun _ _ _ h => h) (by rfl) ?_ (by assumption) ?_
          · intro w hSw
            go_simp
          simp only [Act.put, List.setIfInBounds_toArray, List.set_cons_zero, List.set_cons_succ]
          obtain ⟨⟨z0, z1, z2⟩, p0, p1, p2⟩ := rowN3 S5.out.row
          have hl2 := S5.out.row.lt
          obtain ⟨WZ, hWZ⟩ : ∃ WZ, WZ = Z2.setCell ⟨w.heap.size + 1 + 1, 1, none⟩ (.slice a6 L2.length k6) := ⟨_, rfl⟩
          have S7 : Hid (MaS (w.heap.size + 1 + 1) (w.heap.size + 3) [.int .i64 mi.seq, .slice a6 L2.length k6, .int .i64 mi.gaps] L2 a6 k6 W4 WZ) := by show MaS _ _ _ _ _ _ _ _; rw [hWZ]; exact S5.out.set 1 _ (by simp)
          have HWZ := Lib.hid hWZ
          have HL2 := Lib.hid hL2
          obtain ⟨M2, hM2⟩ : ∃ M2, M2 = L2.length := ⟨_, rfl⟩
          have HM2 := Lib.hid hM2
          rw [← hM2] at HWZ ⊢
          clear hWZ hL2 hM2
          refine take_call (i := 12) rfl (by kernel_rfl) (fun K2 hK => ?_)
          go_simp
          rw [← HWZ.out]
          refine hK.out _ _ (S7.out.oth g _ _ _ HFRW.out (by decide) HGP.out) (fun hHeld2 => ?_)
          clear hK hHeld hHeld2 HWZ z0 z1 z2 p0 p1 p2 hl2 S5
          refine wpAnyH_done (by kernel_rfl) ?_ _
          obtain ⟨⟨z0, z1, z2⟩, p0, p1, p2⟩ := rowN3 S7.out.row
          rw [← HM2.out] at z1
          obtain ⟨q0, q1, q2, q3⟩ := HQ.out _ (S7.out.oth g _ _ _ HFRW.out (by decide) HGP.out)
          have hl2 := S7.out.row.lt
          have hl3 := (S7.out.oth g _ _ _ HFRW.out (by decide) HGP.out).lt
          have hgx2 : ¬ g = w.heap.size + 1 + 1 := HGP.out
          have hgx3 : ¬ w.heap.size + 1 + 1 = g := fun e => HGP.out e.symm
          have r1 : IntKind.i64.wrap (mi.gaps + o.s) = mi.gaps + o.s := lnwrap (by omega) (by omega)
          have r2 : IntKind.i64.wrap (mi.gaps + o.s - mi.seq) = mi.gaps + o.s - mi.seq := lnwrap (by omega) (by omega)
          have r3 : IntKind.i64.wrap (mi.gaps + o.s - mi.seq - 1) = mi.gaps + o.s - mi.seq - 1 := lnwrap (by omega) (by omega)
          go_wp2_with fail
          go_region
          obtain ⟨U, hU⟩ : ∃ U, U = (WZ.setCell ⟨w.heap.size + 1 + 1, 2, none⟩ (.int .i64 (mi.gaps + o.s - mi.seq - 1))).drew := ⟨_, rfl⟩
          rw [← hU]
          have S8 : Hid (MaS (w.heap.size + 1 + 1) (w.heap.size + 3) [.int .i64 mi.seq, .slice a6 L2.length k6, .int .i64 (mi.gaps + o.s - mi.seq - 1)] L2 a6 k6 W4 U) := by show MaS _ _ _ _ _ _ _ _; rw [hU]; exact (S7.out.set 2 _ (by simp)).below (Below.refl _ _).drew
          clear hU S7 z0 z1 z2 p0 p1 p2 q0 q1 q2 q3 hl2 hl3
          obtain ⟨⟨z0, z1, z2⟩, p0, p1, p2⟩ := rowN3 S8.out.row
          obtain ⟨q0, q1, q2, q3⟩ := HQ.out _ (S8.out.oth g _ _ _ HFRW.out (by decide) HGP.out)
          have hl2 := S8.out.row.lt
          obtain ⟨U2, hU2⟩ : ∃ U2, U2 = U.setCell ⟨w.heap.size + 1 + 1, 0, none⟩ (.int .i64 o.s) := ⟨_, rfl⟩
          have S9 : Hid (MaS (w.heap.size + 1 + 1) (w.heap.size + 3) [.int .i64 o.s, .slice a6 L2.length k6, .int .i64 (mi.gaps + o.s - mi.seq - 1)] L2 a6 k6 W4 U2) := by show MaS _ _ _ _ _ _ _ _; rw [hU2]; exact S8.out.set 0 _ (by simp)
          have HU2 := Lib.hid hU2
          clear hU2 S8
          go_wp2_with fail
          rw [← HU2.out]
          rw [HL2.out] at S9
          clear HU2 z0 z1 z2 p0 p1 p2 q0 q1 q2 q3 hl2
          go_roundw
          case rel => exact ⟨i + 1, ⟨o.s, mi.notes ++ [(o.s, n)], mi.gaps + o.s - mi.seq - 1⟩, a6, k6, by omega, by go_num, by rw [← HFE.out]; exact hmi1, HMID, S9⟩
          case measure => simp [intOf]; omega
    · obtain rfl : i = N := by omega
      have HE2 : Hid (m.take u t.data.toList = mi) := by show _ = _; rw [HE.out, hmi.out, HNN.out, List.take_length]
      have HYR := Lib.hid (hS.out.oth _ _ _ _ HY4.out (by decide) (by omega))
      have HBR : Hid (Below w.heap.size w wr) := HB4.out.trans (hS.out.bel.mono (by omega))
      obtain ⟨⟨z0, z1, z2⟩, p0, p1, p2⟩ := rowN3 hS.out.row
      obtain ⟨⟨y0, y1, y2⟩, g0, g1, g2⟩ := rowN3 HYR.out
      have hl2 := hS.out.row.lt
      have hl0 := HYR.out.lt
      obtain ⟨a1', c1', e1, hq, _⟩ := own_ns hS.out.own
      cases e1
      have HQ3 := Lib.hid hq
      clear hq
      obtain ⟨ML, hML⟩ : ∃ ML, ML = mi.notes.length := ⟨_, rfl⟩
      have HML := Lib.hid hML
      rw [← hML] at z1
      have zr := Lib.hid (lput3 HYR.out rfl (.int .i64 mi.seq) (.slice ai ML ki) (.int .i64 mi.gaps))
      have zb := Lib.hid (lbel3 HBR.out (g := w.heap.size + 1) (by omega) (.int .i64 mi.seq) (.slice ai ML ki) (.int .i64 mi.gaps))
      have zq : Hid (NqOwn 37 w.heap.size mi.notes.length ai (Ln.fl mi.notes) ((((wr.setCell ⟨w.heap.size + 1, 0, none⟩ (.int .i64 mi.seq)).setCell ⟨w.heap.size + 1, 1, none⟩ (.slice ai ML ki)).setCell ⟨w.heap.size + 1, 2, none⟩ (.int .i64 mi.gaps)))) := (HQ3.out.same (fun k hk _ => lblk3 (by omega) _ _ _)).low (by omega)
      clear hML
      go_wp2_with fail
      refine bodyPost_ret (v := maV mi ai ki) ?_ rfl ⟨by rw [HE2.out]; exact ⟨ai, ki, rfl, zq.out⟩, zb.out⟩
      obtain ⟨⟨u0, u1, u2⟩, _⟩ := rowN3 zr.out
      simp only [results, Tryz.results21]
      simp only [maV, ← HML.out]
      simp [go_sem, u0, u1, u2]
end Go.Proofs.YtighcbpcclifoaaGreatDoor
