/-
  MasterTake: the program's.
-/
import Derived.Test.YtighcbpcclifoaaGreatDoorLnTk
import Derived.Test.YtighcbpcclifoaaGreatDoorFrI9
namespace Go.Proofs.YtighcbpcclifoaaGreatDoor
open Go.RowKit Go.Deep

/-- The block of a master. -/
abbrev maO (m : Ln.M) (a : Option Addr) (k : Nat) : Obj := .cells #[.int .i64 m.seq, .slice a m.notes.length k, .int .i64 m.gaps] 30
abbrev maZ : List Value := [.int .i64 0, .slice none 0 0, .int .i64 0]
abbrev maZO : Obj := .cells #[.int .i64 0, .slice none 0 0, .int .i64 0] 30
/-- What MasterTake tells. -/
def MaEnd (m : Ln.M) (B : Nat) (e : Ending) (W : World) : Prop := ∃ a k, e = .returned (maV m a k) ∧ NqOwn 37 B m.notes.length a (Ln.fl m.notes) W
/-- A list of frames, place by place. -/
theorem fr_row {B n : Nat} {v : Value} {os : List Fr.Out} {W : World} (h : W.ownsRow B 85 4 v n (os.flatMap outCells)) (hn : n = os.length) :
    ∃ a c, v = .slice a n c ∧ (n = 0 ∨ ∃ g M F, a = some ⟨g, 0, none⟩ ∧ B ≤ g ∧ W.rowIs g 85 M F ∧ n * 4 ≤ M ∧ ∀ i (hi : i < os.length), F (i * 4) = .int .i64 os[i].u ∧ F (i * 4 + 1) = .int .i64 os[i].k ∧ F (i * 4 + 2) = .int .i64 os[i].s ∧ F (i * 4 + 3) = .string ⟨os[i].b.toArray⟩) := by
  rcases h.2 with ⟨rfl, h2⟩ | ⟨g, cap, cur, rfl, e2, e3, e4, e5, e6, e7⟩
  · exact ⟨none, 0, by rw [h2], Or.inl h2⟩
  · refine ⟨_, cap, rfl, Or.inr ⟨g, cap * 4, fun i => cur[i]?.getD undef, rfl, e2, ⟨cur, e3, e6, fun i hi => ?_⟩, by omega, fun i hi => ?_⟩⟩
    · show cur[i]? = some (cur[i]?.getD undef)
      rw [Array.getElem?_eq_getElem (by omega)]
      rfl
    · have key : ∀ c, c < 4 → cur[i * 4 + c]? = (outCells os[i])[c]? := by
        intro c hc
        have h1 : (cur.toList.take (n * 4))[i * 4 + c]? = (os.flatMap outCells)[i * 4 + c]? := by rw [e7]
        rw [List.getElem?_take, if_pos (by omega), Array.getElem?_toList] at h1
        rw [h1]
        clear h1 e7 h
        induction os generalizing i n with
        | nil => simp at hi
        | cons o os ih =>
          cases i with
          | zero => rw [List.flatMap_cons, Nat.zero_mul, Nat.zero_add, List.getElem?_append_left (by simp [outCells]; exact hc)]; rfl
          | succ i =>
            rw [List.flatMap_cons, List.getElem?_append_right (by simp [outCells]; omega)]
            have e : (i + 1) * 4 + c - (outCells o).length = i * 4 + c := by simp [outCells]; omega
            rw [e]
            exact ih (n := os.length) rfl (by simp at hn; omega) i (by simpa using hi)
      have k0 := key 0 (by omega)
      have k1 := key 1 (by omega)
      have k2 := key 2 (by omega)
      have k3 := key 3 (by omega)
      simp only [outCells, Nat.add_zero] at k0 k1 k2 k3
      simp only [k0, k1, k2, k3]
      exact ⟨rfl, rfl, rfl, rfl⟩
theorem frames_field (a : Option Addr) (n c : Nat) (x y z : Int) (w : World) : (Instr.field 80 (.agg #[.slice a n c, .int .i64 x, .int .i64 y, .int .i64 z]) 0).run Tryz.prog w = .ok (.slice a n c) w := by kernel_rfl
theorem scan_len (l : List UInt8) : (Fr.scan l).1.length ≤ l.length := by
  generalize hn : l.length = n
  induction n using Nat.strongRecOn generalizing l with
  | ind n ih =>
    by_cases e : l = []
    · subst e; rw [Fr.scan_nil]; simp
    · by_cases h6 : (Fr.read l).code = 6
      · rw [Fr.scan_short l e h6]; simp
      · have hl : 0 < l.length := List.length_pos_iff.2 e
        by_cases h0 : (Fr.read l).code = 0
        · rw [Fr.scan_frame l e h0]
          have hu := Fr.read_used h0
          have := ih _ (by rw [← hn, List.length_drop]; omega) (l.drop (Fr.read l).used.toNat) rfl
          rw [List.length_drop] at this
          simp only [List.length_cons]; omega
        · rw [Fr.scan_lost l e h6 h0]
          have := ih _ (by rw [← hn, List.length_drop]; omega) (l.drop 1) rfl
          rw [List.length_drop] at this
          simp only; omega
set_option maxRecDepth 100000 in
set_option maxHeartbeats 4000000 in
theorem msright_any (m : Ln.M) (a : Option Addr) (k : Nat) (w : World) (hn : m.notes.length ≤ 1048576) :
    Calls Tryz.prog 96 #[maV m a k] w fun e w' => e = .returned (.bool (lB m.Right)) ∧ Below w.heap.size w w' := by
  have HB := Lib.hid (nbel_alloc w (maO m a k))
  obtain ⟨N, hN⟩ : ∃ N, N = m.notes.length := ⟨_, rfl⟩
  have HNN := Lib.hid hN
  have HB2 : Hid (Below w.heap.size w (w.alloc (.cells #[.int .i64 m.seq, .slice a N k, .int .i64 m.gaps] 30))) := nbel_alloc _ _
  rw [← hN] at hn
  unfold maV
  rw [← hN]
  clear hN HB
  go_enter Tryz.func96, Tryz.ntmps96
  go_wp2_with fail
  refine (lwithin_any _ _ _).mono ?_
  rintro e w1 ⟨rfl, rfl⟩
  by_cases c1 : 0 ≤ m.seq ∧ m.seq ≤ 65535
  case neg =>
    rw [decide_eq_false c1]
    have HE : Hid (lB m.Right = false) := lB_ff (fun h => c1 h.1)
    clear c1
    go_wp2_with fail
    go_ret
    exact ⟨by rw [HE.out]; rfl, HB2.out⟩
  rw [decide_eq_true c1]
  by_cases c2 : (N : Int) ≤ 200
  case neg =>
    have HE : Hid (lB m.Right = false) := lB_ff (fun h => by have := h.2.1; have := HNN.out; omega)
    clear c1
    go_wp2_with fail
    go_ret
    exact ⟨by rw [HE.out]; rfl, HB2.out⟩
  go_wp2_with fail
  refine (lwithin_any _ _ _).mono ?_
  rintro e w1 ⟨rfl, rfl⟩
  have HE : Hid (decide (0 ≤ m.gaps ∧ m.gaps ≤ 1000000000) = lB m.Right) := by
    show _ = _
    by_cases q : 0 ≤ m.gaps ∧ m.gaps ≤ 1000000000
    · rw [decide_eq_true q]; exact (lB_tt ⟨c1, by have := HNN.out; omega, q⟩).symm
    · rw [decide_eq_false q]; exact (lB_ff (fun h => q h.2.2)).symm
  obtain ⟨b, hb0⟩ : ∃ b, b = decide (0 ≤ m.gaps ∧ m.gaps ≤ 1000000000) := ⟨_, rfl⟩
  rw [← hb0] at HE ⊢
  clear hb0 c1
  go_wp2_with fail
  go_ret
  exact ⟨by rw [← HE.out]; rfl, HB2.out⟩
theorem fold_take (u : Int) (os : List Fr.Out) (m : Ln.M) (i : Nat) (hi : i < os.length) : (os.take (i + 1)).foldl (Ln.M.frame u) m = Ln.M.frame u ((os.take i).foldl (Ln.M.frame u) m) os[i] := by
  rw [List.take_add_one, List.getElem?_eq_getElem hi, List.foldl_append]; rfl
set_option maxRecDepth 100000 in
set_option maxHeartbeats 8000000 in
theorem implTake_any (m : Ln.M) (a : Option Addr) (k : Nat) (u : Int) (t : ByteArray) (w : World) (h : IsIn a (m.notes.length * 2) (Ln.fl m.notes) w) (hn : m.notes.length ≤ 1048576) (hg : LnG w) :
    Calls Tryz.prog 76 #[maV m a k, .int .i64 u, .string t] w fun e w' => MaEnd (m.take u t.data.toList) w.heap.size e w' ∧ Below w.heap.size w w' := by
  obtain ⟨W, hW⟩ : ∃ W, W = (w.alloc (maO m a k)).alloc maZO := ⟨_, rfl⟩
  have hsz : W.heap.size = w.heap.size + 2 := by rw [hW]; simp
  have HB : Hid (Below w.heap.size w W) := by show Below _ _ _; rw [hW]; exact ((Below.refl _ _).alloc (Nat.le_refl _) _).alloc (by simp) _
  have HX : Hid (W.rowIs w.heap.size 30 3 (rowN (maL m a k))) := by show W.rowIs _ _ _ _; rw [hW]; exact nrow_below (rowN_alloc w (maL m a k) _) (nbel_alloc _ _)
  have HY : Hid (W.rowIs (w.heap.size + 1) 30 3 (rowN maZ)) := by show W.rowIs _ _ _ _; rw [hW]; exact rowN_alloc' (by simp) maZ _
  have H := Lib.hid (h.below HB.out)
  have HN := Lib.hid hn
  have HG := Lib.hid hg
  have HW := Lib.hid hW
  have HSZ := Lib.hid hsz
  clear hW h hsz hg
  go_enter Tryz.func76, Tryz.ntmps76
  go_wp2_with fail
  rw [← HW.out]
  clear HW
  refine (cln_any a k m.notes _ H.out HN.out).mono ?_
  rintro e w1 ⟨⟨v1, rfl, hown⟩, hb⟩
  rw [HSZ.out] at hown
  obtain ⟨a1, k1, rfl, _, _⟩ := own_ns hown
  replace HX := Lib.hid (nrow_below HX.out hb)
  replace HY := Lib.hid (nrow_below HY.out hb)
  replace HB : Hid (Below w.heap.size w w1) := HB.out.trans (hb.mono HB.out.size)
  have HO := Lib.hid hown
  have hs1 : w.heap.size + 2 ≤ w1.heap.size := by have := hb.size; rw [HSZ.out] at this; exact this
  clear hb hown H HSZ
  obtain ⟨W2, hW2⟩ : ∃ W2, W2 = w1.setCell ⟨w.heap.size, 1, none⟩ (.slice a1 m.notes.length k1) := ⟨_, rfl⟩
  have b2 : ∀ x, x ≠ w.heap.size → W2.heap[x]? = w1.heap[x]? := fun x hx => by rw [hW2]; exact bihs _ _ _ hx _ _
  have hs2 : w.heap.size + 2 ≤ W2.heap.size := by rw [hW2]; simpa using hs1
  have SM : Hid (MaS w.heap.size (w.heap.size + 2) (maL m a1 k1) m.notes a1 k1 w W2) := by
    refine ⟨by rw [hW2]; exact rowN_put HX.out 1 _ (by simp), ownR_keep HO.out (fun q hq _ => b2 q (by have := (HO.out.lt q hq).1; omega)), by rw [hW2]; exact HB.out.setCell (p := ⟨w.heap.size, 1, none⟩) (Nat.le_refl _) _, fun j T n F hr _ hj => (nrow_below hr HB.out).of_block (b2 j hj), by omega, hs2⟩
  have HY2 : Hid (W2.rowIs (w.heap.size + 1) 30 3 (rowN maZ)) := HY.out.of_block (b2 _ (by omega))
  have HW2 := Lib.hid hW2
  obtain ⟨⟨x0, x1, x2⟩, f0, f1, f2⟩ := rowN3 HX.out
  have hl0 := HX.out.lt
  clear hW2 b2 hs1
  go_wp2_with fail
  rw [← HW2.out]
  clear HW2 HX HY HO HB x0 x1 x2 f0 f1 f2 hl0
  refine (msright_any m a1 k1 _ HN.out).mono ?_
  rintro e W3 ⟨rfl, hb⟩
  have SM3 := Lib.hid (SM.out.below hb)
  have HY3 := Lib.hid (nrow_below HY2.out hb)
  clear hb SM HY2 hs2
  obtain ⟨⟨x0, x1, x2⟩, f0, f1, f2⟩ := rowN3 SM3.out.row
  obtain ⟨⟨y0, y1, y2⟩, g0, g1, g2⟩ := rowN3 HY3.out
  have hl0 := SM3.out.row.lt
  have hl1 := HY3.out.lt
  by_cases ct : m.Right
  case neg =>
    rw [lB_ff ct]
    have HE : Hid (m.take u t.data.toList = m) := Ln.M.take_no (fun h => ct h.1)
    clear ct
    obtain ⟨a1', c1', e1, hq, _⟩ := own_ns SM3.out.own
    cases e1
    have HQ3 := Lib.hid hq
    clear hq
    obtain ⟨ML, hML⟩ : ∃ ML, ML = m.notes.length := ⟨_, rfl⟩
    have HML := Lib.hid hML
    rw [← hML] at x1
    have zr := Lib.hid (lput3 HY3.out rfl (.int .i64 m.seq) (.slice a1 ML k1) (.int .i64 m.gaps))
    have zb := Lib.hid (lbel3 SM3.out.bel (g := w.heap.size + 1) (by omega) (.int .i64 m.seq) (.slice a1 ML k1) (.int .i64 m.gaps))
    have zq : Hid (NqOwn 37 w.heap.size m.notes.length a1 (Ln.fl m.notes) ((((W3.setCell ⟨w.heap.size + 1, 0, none⟩ (.int .i64 m.seq)).setCell ⟨w.heap.size + 1, 1, none⟩ (.slice a1 ML k1)).setCell ⟨w.heap.size + 1, 2, none⟩ (.int .i64 m.gaps)))) := (HQ3.out.same (fun k hk _ => lblk3 (by omega) _ _ _)).low (by omega)
    clear hML
    go_wp2_with fail
    refine bodyPost_ret (v := maV m a1 k1) ?_ rfl ⟨by rw [HE.out]; exact ⟨a1, k1, rfl, zq.out⟩, zb.out⟩
    obtain ⟨⟨u0, u1, u2⟩, _⟩ := rowN3 zr.out
    simp only [results, Tryz.results76]
    simp only [maV, ← HML.out]
    simp [go_sem, u0, u1, u2]
  rw [lB_tt ct]
  have HMR := Lib.hid ct
  clear ct
  by_cases cs : 20000 < t.size
  · have HE : Hid (m.take u t.data.toList = m) := Ln.M.take_no (fun h => by have e : t.data.toList.length = t.size := rfl; have := h.2; omega)
    go_wp2_with fail
    refine (implScan_over t cs _ (HG.out.typ.below SM3.out.bel)).mono ?_
    rintro e W4 ⟨v4, rfl, hown4, hb⟩
    have hown5 : W4.ownsRow W3.heap.size 85 4 v4 0 (([] : List Fr.Out).flatMap outCells) := hown4
    obtain ⟨fa, fc, rfl, _⟩ := fr_row hown5 rfl
    clear hown4 hown5
    have SM4 := Lib.hid (SM3.out.below hb)
    have HY4 := Lib.hid (nrow_below HY3.out hb)
    clear hb SM3 HY3 x0 x1 x2 f0 f1 f2 y0 y1 y2 g0 g1 g2 hl0 hl1
    obtain ⟨⟨x0, x1, x2⟩, f0, f1, f2⟩ := rowN3 SM4.out.row
    obtain ⟨⟨y0, y1, y2⟩, g0, g1, g2⟩ := rowN3 HY4.out
    have hl0 := SM4.out.row.lt
    have hl1 := HY4.out.lt
    have hfd := frames_field fa 0 fc 0 0 2
    go_wp2_with fail
    clear hfd
    go_loopw [8, 9, 10, 23] (fun _ _ _ iv wr => iv = .int .i64 0 ∧ wr = W4) (fun _ _ _ _ _ => 0)
    case atStart => exact ⟨rfl, rfl⟩
    case round =>
      obtain ⟨rfl, rfl⟩ := hrel
      obtain ⟨a1', c1', e1, hq, _⟩ := own_ns SM4.out.own
      cases e1
      have HQ3 := Lib.hid hq
      clear hq
      obtain ⟨ML, hML⟩ : ∃ ML, ML = m.notes.length := ⟨_, rfl⟩
      have HML := Lib.hid hML
      rw [← hML] at x1
      have zr := Lib.hid (lput3 HY4.out rfl (.int .i64 m.seq) (.slice a1 ML k1) (.int .i64 m.gaps))
      have zb := Lib.hid (lbel3 SM4.out.bel (g := w.heap.size + 1) (by omega) (.int .i64 m.seq) (.slice a1 ML k1) (.int .i64 m.gaps))
      have zq : Hid (NqOwn 37 w.heap.size m.notes.length a1 (Ln.fl m.notes) ((((wr.setCell ⟨w.heap.size + 1, 0, none⟩ (.int .i64 m.seq)).setCell ⟨w.heap.size + 1, 1, none⟩ (.slice a1 ML k1)).setCell ⟨w.heap.size + 1, 2, none⟩ (.int .i64 m.gaps)))) := (HQ3.out.same (fun k hk _ => lblk3 (by omega) _ _ _)).low (by omega)
      clear hML
      go_wp2_with fail
      refine bodyPost_ret (v := maV m a1 k1) ?_ rfl ⟨by rw [HE.out]; exact ⟨a1, k1, rfl, zq.out⟩, zb.out⟩
      obtain ⟨⟨u0, u1, u2⟩, _⟩ := rowN3 zr.out
      simp only [results, Tryz.results76]
      simp only [maV, ← HML.out]
      simp [go_sem, u0, u1, u2]
  have hts : t.size ≤ 20000 := by omega
  have HTS : Hid (t.data.toList.length ≤ 20000) := hts
  clear cs
  go_wp2_with fail
  refine (implScan_any t hts _ (HG.out.typ.below SM3.out.bel)).mono ?_
  rintro e W4 ⟨v4, rfl, hown4, hb⟩
  obtain ⟨os, hos⟩ : ∃ os, os = (Fr.scan t.data.toList).1 := ⟨_, rfl⟩
  rw [← hos] at hown4
  obtain ⟨fa, fc, rfl, hfr⟩ := fr_row hown4 rfl
  have HGD : Hid (∀ o ∈ os, Ln.Good o) := by show ∀ o ∈ os, _; rw [hos]; exact Ln.scan_good _
  have HE : Hid (m.take u t.data.toList = os.foldl (Ln.M.frame u) m) := by show _ = _; rw [hos]; exact Ln.M.take_yes HMR.out HTS.out
  have SM4 := Lib.hid (SM3.out.below hb)
  have HY4 := Lib.hid (nrow_below HY3.out hb)
  have HFR : Hid (os.length = 0 ∨ ∃ g M F, fa = some ⟨g, 0, none⟩ ∧ g ≠ w.heap.size ∧ W4.rowIs g 85 M F ∧ os.length * 4 ≤ M ∧ ∀ i (hi : i < os.length), F (i * 4) = .int .i64 os[i].u ∧ F (i * 4 + 1) = .int .i64 os[i].k ∧ F (i * 4 + 2) = .int .i64 os[i].s ∧ F (i * 4 + 3) = .string ⟨os[i].b.toArray⟩) := by
    rcases hfr with h | ⟨g, M, F, h1, h2, h3⟩
    · exact Or.inl h
    · exact Or.inr ⟨g, M, F, h1, by have := SM3.out.row.lt; omega, h3⟩
  have hosl : os.length ≤ 20000 := by rw [hos]; have := scan_len t.data.toList; have := HTS.out; omega
  obtain ⟨N, hN⟩ : ∃ N, N = os.length := ⟨_, rfl⟩
  have HNN := Lib.hid hN
  rw [← hN] at hosl ⊢
  clear hb hos hown4 hfr hN SM3 HY3 x0 x1 x2 f0 f1 f2 y0 y1 y2 g0 g1 g2 hl0 hl1 hts
  have hfd := fun x y => frames_field fa N fc x y 0
  go_wp2_with fail
  clear hfd
  go_loopw [8, 9, 10, 23] (fun _ _ _ iv wr => ∃ (i : Nat) (mi : Ln.M) (ai : Option Addr) (ki : Nat), i ≤ N ∧ iv = .int .i64 i ∧ Hid (mi = (os.take i).foldl (Ln.M.frame u) m) ∧ Hid mi.Mid ∧ Hid (MaS w.heap.size (w.heap.size + 2) (maL mi ai ki) mi.notes ai ki W4 wr)) (fun _ _ _ iv _ => N - (intOf iv).toNat)
  case atStart => exact ⟨0, m, a1, k1, Nat.zero_le _, rfl, rfl, HMR.out.mid, ⟨SM4.out.row, SM4.out.own, Below.refl _ _, fun _ _ _ _ h _ _ => h, SM4.out.num⟩⟩
  case round =>
    obtain ⟨i, mi, ai, ki, hiN, rfl, hmi, hmid, hS⟩ := hrel
    by_cases hlt : i < N
    · have hltz : (i : Int) < (N : Int) := by omega
      have HIL : i < os.length := by rw [← HNN.out]; exact hlt
      obtain ⟨g, M, F, hfa, hgp, hFr, hM, hFc⟩ : ∃ g M F, fa = some ⟨g, 0, none⟩ ∧ g ≠ w.heap.size ∧ W4.rowIs g 85 M F ∧ os.length * 4 ≤ M ∧ ∀ i (hi : i < os.length), F (i * 4) = .int .i64 os[i].u ∧ F (i * 4 + 1) = .int .i64 os[i].k ∧ F (i * 4 + 2) = .int .i64 os[i].s ∧ F (i * 4 + 3) = .string ⟨os[i].b.toArray⟩ := by
        rcases HFR.out with h | h
        · omega
        · exact h
      obtain ⟨o, ho⟩ : ∃ o, o = os[i] := ⟨_, rfl⟩
      have HGO : Hid (Ln.Good o) := by show Ln.Good o; rw [ho]; exact HGD.out _ (List.getElem_mem HIL)
      have hmi1 : Hid (Ln.M.frame u mi o = (os.take (i + 1)).foldl (Ln.M.frame u) m) := by show _ = _; rw [fold_take u os m i HIL, ← hmi.out, ho]
      have hrow := hS.out.oth g _ _ _ hFr (by decide) hgp
      obtain ⟨c0, c1, c2, c3⟩ := hFc i HIL
      rw [← ho] at c0 c1 c2 c3
      have q0 := hrow.cell (i := i * 4) (by omega)
      have q1 := hrow.cell (i := i * 4 + 1) (by omega)
      have q2 := hrow.cell (i := i * 4 + 2) (by omega)
      have q3 := hrow.cell (i := i * 4 + 3) (by omega)
      rw [c0] at q0
      rw [c1] at q1
      rw [c2] at q2
      rw [c3] at q3
      subst hfa
      obtain ⟨V, hV⟩ : ∃ V, V = wr.alloc (.cells #[.int .i64 o.u, .int .i64 o.k, .int .i64 o.s, .string ⟨o.b.toArray⟩] 85) := ⟨_, rfl⟩
      have hbV : Below wr.heap.size wr V := by rw [hV]; exact nbel_alloc _ _
      have SV := Lib.hid (hS.out.below hbV)
      have HV := Lib.hid hV
      have HGW : Hid (LnG V) := HG.out.below ((SM4.out.bel.trans SV.out.bel))
      clear hV hbV hS hrow c0 c1 c2 c3 hFr hM hFc hgp HIL ho
      go_wp2_with fail
      rw [← HV.out]
      clear HV q0 q1 q2 q3
      refine (noteOf_any u o HGO.out.2.2 _ HGW.out).mono ?_
      rintro e w5 ⟨⟨v5, b5, rfl, hb5t, hb5f⟩, hb⟩
      have SV5 := Lib.hid (SV.out.below hb)
      have HT5 := Lib.hid hb5t
      have HF5 := Lib.hid hb5f
      clear hb SV HGW hb5t hb5f
      obtain ⟨V6, hV6⟩ : ∃ V6, V6 = w5.alloc (.cells #[.int .i64 o.s, .int .i64 v5] 37) := ⟨_, rfl⟩
      have hbV6 : Below w5.heap.size w5 V6 := by rw [hV6]; exact nbel_alloc _ _
      have SV6 := Lib.hid (SV5.out.below hbV6)
      have HZ6 : Hid (V6.rowIs w5.heap.size 37 2 (rowN [.int .i64 o.s, .int .i64 v5])) := by show World.rowIs _ _ _ _ _; rw [hV6]; exact rowN_alloc _ _ _
      obtain ⟨⟨z0, z1⟩, _⟩ := rowN2 HZ6.out
      have HV6 := Lib.hid hV6
      rw [hV6] at z0 z1
      clear hV6 hbV6 SV5 HZ6
      cases b5 with
      | false =>
        have HFE : Hid (Ln.M.frame u mi o = mi) := by show _ = _; unfold Ln.M.frame; rw [HF5.out rfl]
        go_wp2_with fail
        rw [← HV6.out]
        go_roundw
        case rel => exact ⟨i + 1, mi, ai, ki, by omega, by go_num, by rw [← HFE.out]; exact hmi1, hmid, SV6⟩
        case measure => simp [intOf]; omega
      | true =>
        have HFE : Hid (Ln.M.frame u mi o = mi.put (o.s, v5)) := by show _ = _; unfold Ln.M.frame; rw [HT5.out rfl]
        go_wp2_with fail
        rw [← HV6.out]
        clear HV6 z0 z1
        refine (take_any w.heap.size (w.heap.size + 2) mi ai ki o.s v5 _ SV6.out.row SV6.out.own SV6.out.num.1 SV6.out.num.2 hmid.out HGO.out.1 HGO.out.2.1).mono ?_
        rintro e w7 ⟨rfl, a7, k7, hS7⟩
        have S7 := Lib.hid (SV6.out.trans hS7)
        have HM7 : Hid (mi.put (o.s, v5)).Mid := hmid.out.put ⟨HGO.out.1, HGO.out.2.1⟩
        clear hS7 SV6
        obtain ⟨m7, hm7⟩ : ∃ m7, m7 = mi.put (o.s, v5) := ⟨_, rfl⟩
        rw [← hm7] at S7 HM7 HFE
        clear hm7
        go_wp2_with fail
        go_roundw
        case rel => exact ⟨i + 1, m7, a7, k7, by omega, by go_num, by rw [← HFE.out]; exact hmi1, HM7, S7⟩
        case measure => simp [intOf]; omega
    · obtain rfl : i = N := by omega
      have HE2 : Hid (m.take u t.data.toList = mi) := by show _ = _; rw [HE.out, hmi.out, HNN.out, List.take_length]
      have HYR := Lib.hid (hS.out.oth _ _ _ _ HY4.out (by decide) (by omega))
      have HBR : Hid (Below w.heap.size w wr) := SM4.out.bel.trans hS.out.bel
      clear HE
      have HE : Hid (m.take u t.data.toList = mi) := HE2
      obtain ⟨⟨x0, x1, x2⟩, f0, f1, f2⟩ := rowN3 hS.out.row
      obtain ⟨⟨y0, y1, y2⟩, g0, g1, g2⟩ := rowN3 HYR.out
      have hl0 := hS.out.row.lt
      have hl1 := HYR.out.lt
      obtain ⟨a1', c1', e1, hq, _⟩ := own_ns hS.out.own
      cases e1
      have HQ3 := Lib.hid hq
      clear hq
      obtain ⟨ML, hML⟩ : ∃ ML, ML = mi.notes.length := ⟨_, rfl⟩
      have HML := Lib.hid hML
      rw [← hML] at x1
      have zr := Lib.hid (lput3 HYR.out rfl (.int .i64 mi.seq) (.slice ai ML ki) (.int .i64 mi.gaps))
      have zb := Lib.hid (lbel3 HBR.out (g := w.heap.size + 1) (by omega) (.int .i64 mi.seq) (.slice ai ML ki) (.int .i64 mi.gaps))
      have zq : Hid (NqOwn 37 w.heap.size mi.notes.length ai (Ln.fl mi.notes) ((((wr.setCell ⟨w.heap.size + 1, 0, none⟩ (.int .i64 mi.seq)).setCell ⟨w.heap.size + 1, 1, none⟩ (.slice ai ML ki)).setCell ⟨w.heap.size + 1, 2, none⟩ (.int .i64 mi.gaps)))) := (HQ3.out.same (fun k hk _ => lblk3 (by omega) _ _ _)).low (by omega)
      clear hML
      go_wp2_with fail
      refine bodyPost_ret (v := maV mi ai ki) ?_ rfl ⟨by rw [HE.out]; exact ⟨ai, ki, rfl, zq.out⟩, zb.out⟩
      obtain ⟨⟨u0, u1, u2⟩, _⟩ := rowN3 zr.out
      simp only [results, Tryz.results76]
      simp only [maV, ← HML.out]
      simp [go_sem, u0, u1, u2]
end Go.Proofs.YtighcbpcclifoaaGreatDoor
