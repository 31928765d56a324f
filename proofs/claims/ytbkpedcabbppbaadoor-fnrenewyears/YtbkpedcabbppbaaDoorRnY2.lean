/-
  RenewYears: the program's.
-/
import Derived.Test.YtbkpedcabbppbaaDoorRnY1
import Derived.Test.YtbkpedcabbppbaaDoorRnP1
import Derived.Test.YtbkpedcabbppbaaDoorRnSs
import Derived.Test.YtbkpedcabbppbaaDoorRnT4
namespace Go.Proofs.YtbkpedcabbppbaaDoor
open Go.RowKit Go.Deep

/-- The first rows are there. -/
def YsS (B gY m y : Nat) (own : Nat → List Nat) (W : World) : Prop := ∃ (aj : Nat → Option Addr) (cj : Nat → Nat), (∃ F, W.rowIs gY 24 m F ∧ ∀ j, j < y → F j = .slice (aj j) (own j).length (cj j)) ∧ (∀ j, j < y → LsOwn 2 1 B (own j).length (aj j) (cj j) (Rn.nf (own j)) W) ∧ ∀ i j b, i < y → j < y → aj i = some b → aj j = some b → i = j
theorem YsS.below {B gY m y : Nat} {own : Nat → List Nat} {W W' : World} (h : YsS B gY m y own W) (hb : Below W.heap.size W W') : YsS B gY m y own W' := by
  obtain ⟨aj, cj, ⟨F, h1, h2⟩, h3, h4⟩ := h
  exact ⟨aj, cj, ⟨F, nrow_below h1 hb, h2⟩, fun j hj => (h3 j hj).below hb, h4⟩
theorem YsS.lt {B gY m y : Nat} {own : Nat → List Nat} {W : World} (h : YsS B gY m y own W) : gY < W.heap.size := by obtain ⟨aj, cj, ⟨F, h1, _⟩, _⟩ := h; exact h1.lt
theorem YsS.cell {B gY m y j : Nat} {own : Nat → List Nat} {W : World} (h : YsS B gY m y own W) (hj : j < m) : ∃ v, W.cell? ⟨gY, j, none⟩ = some v ∧ W.frozen? ⟨gY, j, none⟩ = false := by
  obtain ⟨aj, cj, ⟨F, h1, _⟩, _⟩ := h
  exact ⟨_, h1.cell hj, h1.frozen j⟩
theorem lsown_ne {B N k g m : Nat} {a : Option Addr} {f : Nat → Int} {W : World} {t : TypeId} {F : Nat → Value} (h : LsOwn 2 1 B N a k f W) (hr : W.rowIs g t m F) (ht : t ≠ 2) (i : Nat) (v : Value) : LsOwn 2 1 B N a k f (W.setCell ⟨g, i, none⟩ v) := by
  rcases h with h | ⟨x, e, h1, h2⟩
  · exact Or.inl h
  · refine Or.inr ⟨x, e, h1, h2.block (rhs _ _ _ ?_ _ _)⟩
    obtain ⟨cur, q, _⟩ := hr
    exact typ_ne (isBlk_type h2) ⟨cur, q⟩ (fun e => ht e.symm)
theorem YsS.put {B gY m y : Nat} {own : Nat → List Nat} {Z W : World} (h : YsS B gY m y own Z) (hb : Below Z.heap.size Z W) {a : Option Addr} {c : Nat} (hB : B ≤ Z.heap.size) (hr : LsOwn 2 1 Z.heap.size (own y).length a c (Rn.nf (own y)) W) : YsS B gY m (y + 1) own (W.setCell ⟨gY, y, none⟩ (.slice a (own y).length c)) := by
  obtain ⟨aj, cj, ⟨F, h1, h2⟩, h3, h4⟩ := h
  have h1' := nrow_below h1 hb
  refine ⟨fun j => if j = y then a else aj j, fun j => if j = y then c else cj j, ⟨_, h1'.set y _, fun j hj => ?_⟩, fun j hj => ?_, fun i j b hi hj e1 e2 => ?_⟩
  · by_cases e : j = y
    · subst e; simp
    · simp only [if_neg e]; exact h2 j (by omega)
  · by_cases e : j = y
    · subst e; simp only; exact lsown_ne (hr.low hB) h1' (by decide) _ _
    · simp only [if_neg e]; exact lsown_ne ((h3 j (by omega)).below hb) h1' (by decide) _ _
  · have old : ∀ t, t < y → aj t = some b → b.block < Z.heap.size := fun t ht e => by
      rcases h3 t ht with q | ⟨g, e', _, q⟩
      · rw [q.1] at e; cases e
      · rw [e'] at e; cases e; exact q.lt
    have new : a = some b → Z.heap.size ≤ b.block := fun e => by
      rcases hr with q | ⟨g, e', q, _⟩
      · rw [q.1] at e; cases e
      · rw [e'] at e; cases e; exact q
    by_cases ei : i = y
    · by_cases ej : j = y
      · omega
      · simp only [if_pos ei] at e1
        simp only [if_neg ej] at e2
        have := old j (by omega) e2
        have := new e1
        omega
    · simp only [if_neg ei] at e1
      by_cases ej : j = y
      · simp only [if_pos ej] at e2
        have := old i (by omega) e1
        have := new e2
        omega
      · simp only [if_neg ej] at e2
        exact h4 i j b (by omega) (by omega) e1 e2
theorem YsS.ss {B gY m : Nat} {own : Nat → List Nat} {W : World} (h : YsS B gY m m own W) (hB : B ≤ gY) (c : Nat) : SsO B W.heap.size m (some ⟨gY, 0, none⟩) c (fun j => (own j).length) (fun j => Rn.nf (own j)) W := by
  obtain ⟨aj, cj, ⟨F, h1, h2⟩, h3, h4⟩ := h
  refine Or.inr ⟨gY, aj, cj, rfl, ⟨hB, h1.lt⟩, ⟨m, F, Nat.le_refl _, h1, h2⟩, fun j hj => ?_, h4⟩
  rcases h3 j hj with q | ⟨g, e, q1, q2⟩
  · exact Or.inl q
  · rw [Nat.mul_one] at q2
    exact Or.inr ⟨g, e, ⟨q1, q2.lt⟩, q2⟩
theorem ras_own {B : Nat} {v : Value} {l : List Nat} {F : Nat → Int} {W : World} (h : W.ownsRow B 53 2 v l.length (Rn.asVs F l)) : ∃ a c, v = .slice a l.length c ∧ IsAt a (l.length * 2) (Rn.sub F l) W ∧ ∀ o, a = some o → B ≤ o.block := by
  rcases h.2 with h2 | ⟨g, cap, cur, e1, e2, e3, e4, e5, e6, e7⟩
  · exact ⟨none, 0, by rw [h2.1, h2.2], Or.inl (by rw [h2.2]), fun o e => by cases e⟩
  · refine ⟨some ⟨g, 0, none⟩, _, e1, Or.inr ⟨g, rfl, fun j hj => ?_⟩, fun o e => by cases e; exact e2⟩
    have h1 : (cur.toList.take (l.length * 2))[j]? = (Rn.asVs F l)[j]? := by rw [e7]
    rw [List.getElem?_take, if_pos hj, Array.getElem?_toList, Rn.asVs_at F l j hj] at h1
    simp [World.cell?, e3, h1]
theorem rin_own {B : Nat} {v : Value} {l : List Nat} {F : Nat → Int} {W : World} (h : W.ownsRow B 2 1 v l.length (Rn.inVs F l)) : ∃ a c, v = .slice a l.length c ∧ IsAt a l.length (fun j => F (l.getD j 0)) W ∧ ∀ o, a = some o → B ≤ o.block := by
  rcases h.2 with h2 | ⟨g, cap, cur, e1, e2, e3, e4, e5, e6, e7⟩
  · exact ⟨none, 0, by rw [h2.1, h2.2], Or.inl h2.2, fun o e => by cases e⟩
  · refine ⟨some ⟨g, 0, none⟩, _, e1, Or.inr ⟨g, rfl, fun j hj => ?_⟩, fun o e => by cases e; exact e2⟩
    have h1 : (cur.toList.take (l.length * 1))[j]? = (Rn.inVs F l)[j]? := by rw [e7]
    rw [List.getElem?_take, if_pos (by omega), Array.getElem?_toList] at h1
    have h2 : (Rn.inVs F l)[j]? = some (.int .i64 (F (l.getD j 0))) := by
      unfold Rn.inVs
      simp [List.getElem?_eq_getElem hj]
    rw [h2] at h1
    simp [World.cell?, e3, h1]
theorem risat_congr {a : Option Addr} {N : Nat} {f g : Nat → Int} {W : World} (h : IsAt a N f W) (e : ∀ j, j < N → f j = g j) : IsAt a N g W := by
  rcases h with h | ⟨b, e1, h⟩
  · exact Or.inl h
  · exact Or.inr ⟨b, e1, fun j hj => by rw [← e j hj]; exact h j hj⟩
theorem risat_set {a : Option Addr} {N : Nat} {f : Nat → Int} {W : World} (h : IsAt a N f W) {g : Nat} (hg : ∀ o, a = some o → 0 < N → o.block ≠ g) (i : Nat) (v : Value) : IsAt a N f (W.setCell ⟨g, i, none⟩ v) := by
  rcases h with h | ⟨b, e1, h⟩
  · exact Or.inl h
  · exact Or.inr ⟨b, e1, fun j hj => by rw [World.cell?_setCell_far _ _ _ _ (fun e => hg _ e1 (by omega) e.symm)]; exact h j hj⟩
/-- A list that lies elsewhere. -/
def IsEl (gY : Nat) (a : Option Addr) (N : Nat) (f : Nat → Int) (W : World) : Prop := IsAt a N f W ∧ ∀ o, a = some o → 0 < N → o.block ≠ gY
theorem IsEl.below {gY : Nat} {a : Option Addr} {N : Nat} {f : Nat → Int} {W W' : World} (h : IsEl gY a N f W) (hb : Below W.heap.size W W') : IsEl gY a N f W' := ⟨h.1.below hb, h.2⟩
theorem IsEl.set {gY : Nat} {a : Option Addr} {N : Nat} {f : Nat → Int} {W : World} (h : IsEl gY a N f W) (i : Nat) (v : Value) : IsEl gY a N f (W.setCell ⟨gY, i, none⟩ v) := ⟨risat_set h.1 h.2 i v, h.2⟩
namespace Rn
theorem unt_len (L P : List Nat) : (unt L P).length = (qsTo P L.length).length := by rw [qs_unt, List.length_map]
theorem unt_nf (L P : List Nat) {j : Nat} (hj : j < (qsTo P L.length).length) : nf L ((qsTo P L.length).getD j 0) = nf (unt L P) j := by
  rw [qs_unt]
  unfold nf
  simp [List.getD_eq_getElem?_getD, List.getElem?_eq_getElem hj]
theorem unt_sub (f : Nat → Int) (L P : List Nat) {j : Nat} (hj : j < (qsTo P L.length).length * 2) : sub (sub f L) (qsTo P L.length) j = sub f (unt L P) j := by
  rw [qs_unt]
  unfold sub
  have h2 : j / 2 < (qsTo P L.length).length := by omega
  have e1 : ((qsTo P L.length).getD (j / 2) 0 * 2 + j % 2) / 2 = (qsTo P L.length).getD (j / 2) 0 := by omega
  have e2 : ((qsTo P L.length).getD (j / 2) 0 * 2 + j % 2) % 2 = j % 2 := by omega
  rw [e1, e2]
  simp [List.getD_eq_getElem?_getD, List.getElem?_eq_getElem h2]
/-- Years that are told at all. -/
def YsOk (n : Nat) (f : Nat → Int) (m : Nat) (b : Nat → Int) : Prop := Right n f ∧ m ≤ 20 ∧ BudsOk m b
noncomputable def ym (n : Nat) (f : Nat → Int) (m : Nat) (b : Nat → Int) : Nat := if dB (YsOk n f m b) = true then m else 0
theorem ym_yes {n : Nat} {f : Nat → Int} {m : Nat} {b : Nat → Int} (h : YsOk n f m b) : ym n f m b = m := by unfold ym; rw [if_pos (dB_tt h)]
theorem ym_no {n : Nat} {f : Nat → Int} {m : Nat} {b : Nat → Int} (h : ¬ YsOk n f m b) : ym n f m b = 0 := by unfold ym; rw [if_neg (by rw [dB_ff h]; simp)]
theorem nf_range {n j : Nat} (h : j < n) : nf (List.range n) j = (j : Int) := by unfold nf; rw [List.getD_eq_getElem?_getD, List.getElem?_range h]; rfl
theorem sub_range (f : Nat → Int) {n j : Nat} (h : j < n * 2) : f j = sub f (List.range n) j := by
  unfold sub
  rw [List.getD_eq_getElem?_getD, List.getElem?_range (by omega)]
  simp only [Option.getD_some]
  congr 1
  omega
end Rn
/-- What is told of years. -/
def YrEnd (B m : Nat) (own : Nat → List Nat) (e : Ending) (W : World) : Prop := ∃ a k, e = .returned (.slice a m k) ∧ SsO B W.heap.size m a k (fun j => (own j).length) (fun j => Rn.nf (own j)) W
set_option maxRecDepth 100000 in
set_option maxHeartbeats 8000000 in
theorem implYears_any (a : Option Addr) (n cap : Nat) (f : Nat → Int) (ba : Option Addr) (m bc : Nat) (b : Nat → Int) (w : World) (h : IsAt a (n * 2) f w) (hs : n ≤ 1048576) (hb : IsAt ba m b w) (hm : m ≤ 1048576) :
    Calls Tryd.prog 28 #[.slice a n cap, .slice ba m bc] w fun e w' => YrEnd w.heap.size (Rn.ym n f m b) (Rn.own f n b) e w' ∧ Below w.heap.size w w' := by
  have H := Lib.hid h
  have HBB := Lib.hid hb
  clear h hb
  by_cases cr : Rn.Right n f
  case neg =>
    rw [Rn.ym_no (fun x => cr x.1)]
    have HC := Lib.hid (dB_ff cr)
    clear cr
    go_enter Tryd.func28, Tryd.ntmps28
    go_wp2_with fail
    refine (implAssets_any a n cap f _ H.out hs).mono ?_
    rintro e w1 ⟨rfl, hb⟩
    rw [HC.out]
    have HB := Lib.hid hb
    clear hb
    go_wp2_with fail
    go_ret
    exact ⟨⟨none, 0, rfl, Or.inl ⟨rfl, rfl, rfl⟩⟩, HB.out⟩
  have HC := Lib.hid (dB_tt cr)
  have HRT := Lib.hid cr
  have hn40 := cr.1
  clear cr
  by_cases cm : (20 : Int) < (m : Int)
  · rw [Rn.ym_no (fun x => by have := x.2.1; omega)]
    go_enter Tryd.func28, Tryd.ntmps28
    go_wp2_with fail
    refine (implAssets_any a n cap f _ H.out hs).mono ?_
    rintro e w1 ⟨rfl, hb⟩
    rw [HC.out]
    have HB := Lib.hid hb
    clear hb
    go_wp2_with fail
    go_ret
    exact ⟨⟨none, 0, rfl, Or.inl ⟨rfl, rfl, rfl⟩⟩, HB.out⟩
  by_cases cb : Rn.BudsOk m b
  case neg =>
    rw [Rn.ym_no (fun x => cb x.2.2)]
    have HCB := Lib.hid (dB_ff cb)
    clear cb
    go_enter Tryd.func28, Tryd.ntmps28
    go_wp2_with fail
    refine (implAssets_any a n cap f _ H.out hs).mono ?_
    rintro e w1 ⟨rfl, hb⟩
    rw [HC.out]
    have HB := Lib.hid hb
    clear hb
    go_wp2_with fail
    refine (rallw_any ba m bc b _ (HBB.out.below HB.out) hm).mono ?_
    rintro e w2 ⟨rfl, hw⟩
    subst w2
    rw [HCB.out]
    go_wp2_with fail
    go_ret
    exact ⟨⟨none, 0, rfl, Or.inl ⟨rfl, rfl, rfl⟩⟩, HB.out⟩
  have HCB := Lib.hid (dB_tt cb)
  have HBK := Lib.hid cb
  rw [Rn.ym_yes ⟨HRT.out, by omega, cb⟩]
  clear cb
  have hmkn := run_make_row' (P := Tryd.prog) 24 2 (.int .i64 0) 8 Tryd.underlying24 rninfo rfl .i64 .i64 n (by omega) (by omega)
  have hmkm := run_make_row' (P := Tryd.prog) 43 24 (.slice none 0 0) 24 Tryd.underlying43 rinfo_ss rfl .i64 .i64 m (by omega) (by omega)
  go_enter Tryd.func28, Tryd.ntmps28
  go_wp2_with fail
  refine (implAssets_any a n cap f _ H.out hs).mono ?_
  rintro e w1 ⟨rfl, hb⟩
  rw [HC.out]
  have HB := Lib.hid hb
  clear hb
  go_wp2_with fail
  refine (rallw_any ba m bc b _ (HBB.out.below HB.out) hm).mono ?_
  rintro e w2 ⟨rfl, hw⟩
  subst w2
  rw [HCB.out]
  clear HCB HC
  go_wp2_with fail
  have HST : Hid (IsPart 2 w1.heap.size n 0 (Rn.nf (List.range n)) (w1.alloc (.cells (madeCells #[.int .i64 0] n) 2))) := ⟨_, World.rowIs_made w1 (.int .i64 0) n 2, fun j hj => absurd hj (by omega)⟩
  have HSB : Hid (Below w1.heap.size w1 (w1.alloc (.cells (madeCells #[.int .i64 0] n) 2))) := nbel_alloc _ _
  go_loopw [6, 29] (fun _ iv wr => ∃ (i : Nat), i ≤ n ∧ iv = .int .i64 i ∧ Hid (IsPart 2 w1.heap.size n i (Rn.nf (List.range n)) wr) ∧ Hid (Below w1.heap.size w1 wr)) (fun _ iv _ => n - (intOf iv).toNat)
  case atStart => exact ⟨0, Nat.zero_le _, rfl, HST, HSB⟩
  case round =>
    obtain ⟨i, hi, rfl, hP, hB⟩ := hrel
    clear HST HSB
    by_cases hlt : i < n
    · have hltz : (i : Int) < (n : Int) := by omega
      have HP2 := Lib.hid (hP.out.put (i : Int) (Rn.nf_range hlt).symm)
      obtain ⟨v0, y0⟩ := hP.out.cell (j := i) (by omega)
      have z0 := hP.out.frozen i
      have hz : w1.heap.size < wr.heap.size := hP.out.lt
      clear hP
      go_wp2_with fail
      go_roundw
      case rel => exact ⟨i + 1, by omega, by go_num, HP2, hB.out.setCell (p := ⟨w1.heap.size, i, none⟩) (Nat.le_refl _) _⟩
      case measure => simp [intOf]; omega
    obtain rfl : i = n := by omega
    have HPL := Lib.hid (hP.out.full (Nat.le_refl _))
    clear hP hmkn
    go_wp2_with fail
    obtain ⟨W, hW⟩ : ∃ W, W = wr.alloc (.cells (madeCells #[.slice none 0 0] m) 24) := ⟨_, rfl⟩
    obtain ⟨gY, hgY⟩ : ∃ gY, gY = wr.heap.size := ⟨_, rfl⟩
    have hbW : Below wr.heap.size wr W := by rw [hW]; exact nbel_alloc _ _
    have HYS : Hid (YsS w.heap.size gY m 0 (Rn.own f i b) W) := ⟨fun _ => none, fun _ => 0, ⟨_, by rw [hW, hgY]; exact World.rowIs_made wr _ m _, fun j hj => absurd hj (by omega)⟩, fun j hj => absurd hj (by omega), fun x _ _ hx => absurd hx (by omega)⟩
    have HBW : Hid (Below w.heap.size w W) := HB.out.trans ((hB.out.trans (hbW.mono hB.out.size)).mono HB.out.size)
    have HGY : Hid (w.heap.size ≤ gY) := by show _ ≤ _; rw [hgY]; exact Nat.le_trans HB.out.size hB.out.size
    have HL0 : Hid (IsEl gY a ((Rn.rem f i b 0).length * 2) (Rn.sub f (Rn.rem f i b 0)) W) := by
      refine ⟨?_, fun o e h0 => ?_⟩
      · show IsAt a ((List.range i).length * 2) _ W
        rw [List.length_range]
        exact risat_congr (H.out.below HBW.out) (fun j hj => Rn.sub_range f hj)
      · have h0' : 0 < i := by
          have : (Rn.rem f i b 0).length = i := by show (List.range i).length = i; simp
          omega
        obtain ⟨lb, e', c0, _⟩ := H.out.at2 (i := 0) h0'
        rw [e] at e'
        cases e'
        have := World.block_lt_of_cell? _ _ c0
        have := HGY.out
        simp at *
        omega
    have HP0 : Hid (IsEl gY (some ⟨w1.heap.size, 0, none⟩) (Rn.rem f i b 0).length (Rn.nf (Rn.rem f i b 0)) W) := by
      refine ⟨?_, fun o e _ => ?_⟩
      · show IsAt _ (List.range i).length _ W
        rw [List.length_range]
        exact (HPL.out.below hbW).at_
      · cases e
        show w1.heap.size ≠ gY
        have := HPL.out.lt
        omega
    have hlen0 : (Rn.rem f i b 0).length = i := by show (List.range i).length = i; simp
    rw [← hW, ← hgY]
    clear hW hgY hbW HPL hB hmkm HB
    go_wp2_with fail
    try dsimp only
    go_loopw [0, 5, 8, 9, 10, 42] (fun lv pv _ _ _ iv wr => ∃ (y : Nat) (a0 : Option Addr) (c0 : Nat) (a5 : Option Addr) (c5 : Nat), y ≤ m ∧ iv = .int .i64 y ∧ lv = .slice a0 (Rn.rem f i b y).length c0 ∧ pv = .slice a5 (Rn.rem f i b y).length c5 ∧ Hid (IsEl gY a0 ((Rn.rem f i b y).length * 2) (Rn.sub f (Rn.rem f i b y)) wr) ∧ Hid (IsEl gY a5 (Rn.rem f i b y).length (Rn.nf (Rn.rem f i b y)) wr) ∧ Hid (YsS w.heap.size gY m y (Rn.own f i b) wr) ∧ Hid (Below w.heap.size w wr)) (fun _ _ _ _ _ iv _ => m - (intOf iv).toNat)
    case atStart => exact ⟨0, a, cap, _, i, Nat.zero_le _, rfl, by rw [hlen0], by rw [hlen0], HL0, HP0, HYS, HBW⟩
    case round =>
      obtain ⟨y, a0, c0, a5, c5, hy, rfl, rfl, rfl, hL, hQ, hY, hB⟩ := hrel
      clear HL0 HP0 HYS HBW hlen0
      by_cases hlt : y < m
      case neg =>
        obtain rfl : y = m := by omega
        have HEND := Lib.hid (hY.out.ss HGY.out y)
        clear hY hL hQ
        go_wp2_with fail
        go_ret
        exact ⟨⟨_, _, rfl, HEND.out⟩, hB.out⟩
      have hltz : (y : Int) < (m : Int) := by omega
      obtain ⟨bb, e, cb⟩ := (HBB.out.below hB.out).at1 hlt
      subst e
      have hbk := HBK.out y hlt
      obtain ⟨bn, hbn⟩ : ∃ bn : Nat, b y = (bn : Int) := ⟨(b y).toNat, by have := hbk.1; omega⟩
      have hb3 : bn ≤ 300 := by have := hbk.2; omega
      rw [hbn] at cb
      obtain ⟨R, hR⟩ : ∃ R, R = Rn.rem f i b y := ⟨_, rfl⟩
      rw [← hR] at hL hQ ⊢
      have hinv := Rn.rem_inv f i b y
      rw [← hR] at hinv
      have hRl : R.length ≤ 40 := by omega
      have HRR : Hid (Rn.Right R.length (Rn.sub f R)) := by show Rn.Right _ _; rw [hR]; exact Rn.rem_right HRT.out b y
      obtain ⟨P, hP⟩ : ∃ P, P = Rn.picks (Rn.sub f R) R.length bn := ⟨_, rfl⟩
      have HPK : Hid (P = Rn.pk f R (b y)) := by show P = _; rw [hP, hbn]; rfl
      have HOWN : Hid (Rn.own f i b y = Rn.tkn R P) := by show Rn.own f i b y = _; unfold Rn.own; rw [← hR, ← HPK.out]
      have HREM : Hid (Rn.rem f i b (y + 1) = Rn.unt R P) := by show Rn.unt _ _ = _; rw [← hR, ← HPK.out]
      have HPL2 : Hid (∀ x, x ∈ P → x < R.length) := fun x hx => by rw [hP] at hx; exact Rn.picks_lt HRR.out hx
      have hPl : P.length ≤ 40 := by rw [hP]; exact Nat.le_trans (Rn.picks_len _ _ _) hRl
      have HR := Lib.hid hR
      have HPD := Lib.hid hP
      clear hbk hbn hR hP hinv
      go_wp2_with fail
      refine (bestPicks_any a0 R.length c0 (Rn.sub f R) bn _ hL.out.1 HRR.out hb3).mono ?_
      rintro e w3 ⟨⟨v, rfl, hown⟩, hb⟩
      rw [← HPD.out] at hown
      obtain ⟨pa, pc, rfl, hPA⟩ := rls_own hown
      have HPA : Hid (IsAt pa P.length (Rn.nf P) w3) := by have q := hPA.at_; rw [Nat.mul_one] at q; exact q
      replace hL := Lib.hid (hL.out.below hb)
      replace hQ := Lib.hid (hQ.out.below hb)
      replace hY := Lib.hid (hY.out.below hb)
      replace hB : Hid (Below w.heap.size w w3) := hB.out.trans (hb.mono hB.out.size)
      have hgy3 : gY < w3.heap.size := hY.out.lt
      have HPE : Hid (∀ o, pa = some o → 0 < P.length → o.block ≠ gY) := fun o e _ => by
        rcases hPA with q | ⟨g, e', q1, q2⟩
        · rw [q.1] at e; cases e
        · rw [e'] at e
          cases e
          obtain ⟨aj, cj, ⟨F, h1, _⟩, _⟩ := hY.out
          obtain ⟨cur, q, _⟩ := h1
          exact typ_ne (isBlk_type q2) ⟨cur, q⟩ (by decide)
      clear hb hown hPA cb
      go_wp2_with fail
      refine (taken_any a5 c5 R pa pc P _ hQ.out.1 HPA.out HPL2.out (by omega) (by omega)).mono ?_
      rintro e w4 ⟨⟨v, rfl, hown⟩, hb⟩
      rw [← HOWN.out] at hown
      obtain ⟨ra, rc, rfl, hRA⟩ := rls_own hown
      obtain ⟨vv, o0, o1⟩ := (hY.out.below hb).cell hlt
      have hol := (hY.out.below hb).lt
      have HY4 : Hid (YsS w.heap.size gY m (y + 1) (Rn.own f i b) (w4.setCell ⟨gY, y, none⟩ (.slice ra (Rn.own f i b y).length rc))) := hY.out.put hb hB.out.size hRA
      have HL4 : Hid (IsEl gY a0 (R.length * 2) (Rn.sub f R) (w4.setCell ⟨gY, y, none⟩ (.slice ra (Rn.own f i b y).length rc))) := (hL.out.below hb).set _ _
      have HQ4 : Hid (IsEl gY a5 R.length (Rn.nf R) (w4.setCell ⟨gY, y, none⟩ (.slice ra (Rn.own f i b y).length rc))) := (hQ.out.below hb).set _ _
      have HP4 : Hid (IsAt pa P.length (Rn.nf P) (w4.setCell ⟨gY, y, none⟩ (.slice ra (Rn.own f i b y).length rc))) := risat_set (HPA.out.below hb) HPE.out _ _
      have HB4 : Hid (Below w.heap.size w (w4.setCell ⟨gY, y, none⟩ (.slice ra (Rn.own f i b y).length rc))) := (hB.out.trans (hb.mono hB.out.size)).setCell (p := ⟨gY, y, none⟩) HGY.out _
      clear hown hRA hb hL hQ hY hB HPA HPE
      go_wp2_with fail
      generalize w4.setCell ⟨gY, y, none⟩ (.slice ra (Rn.own f i b y).length rc) = W4 at HY4 HL4 HQ4 HP4 HB4 ⊢
      clear o0 o1 hol
      have hgy4 : gY < W4.heap.size := HY4.out.lt
      refine (untakenA_any a0 R.length c0 (Rn.sub f R) pa pc P _ HL4.out.1 HP4.out (by omega) (by omega)).mono ?_
      rintro e w5 ⟨⟨v, rfl, hown⟩, hb⟩
      obtain ⟨na, nc, rfl, hN1, hN2⟩ := ras_own hown
      have HN : Hid (IsEl gY na ((Rn.rem f i b (y + 1)).length * 2) (Rn.sub f (Rn.rem f i b (y + 1))) w5) := by
        rw [HREM.out]
        refine ⟨?_, fun o e _ => by have := hN2 o e; omega⟩
        rw [Rn.unt_len]
        exact risat_congr hN1 (fun j hj => Rn.unt_sub f R P hj)
      have HLN : Hid ((Rn.qsTo P R.length).length = (Rn.rem f i b (y + 1)).length) := by show _ = _; rw [HREM.out, Rn.unt_len]
      replace HY4 := Lib.hid (HY4.out.below hb)
      replace HQ4 := Lib.hid (HQ4.out.below hb)
      replace HP4 := Lib.hid (HP4.out.below hb)
      replace HB4 : Hid (Below w.heap.size w w5) := HB4.out.trans (hb.mono HB4.out.size)
      have hgy5 : gY < w5.heap.size := HY4.out.lt
      clear hown hN1 hN2 hb HL4
      rw [HLN.out]
      go_wp2_with fail
      refine (untakenI_any a5 R.length c5 (Rn.nf R) pa pc P _ HQ4.out.1 HP4.out (by omega) (by omega)).mono ?_
      rintro e w6 ⟨⟨v, rfl, hown⟩, hb⟩
      obtain ⟨qa, qc, rfl, hN1, hN2⟩ := rin_own hown
      have HM : Hid (IsEl gY qa (Rn.rem f i b (y + 1)).length (Rn.nf (Rn.rem f i b (y + 1))) w6) := by
        rw [HREM.out]
        refine ⟨?_, fun o e _ => by have := hN2 o e; omega⟩
        rw [Rn.unt_len]
        exact risat_congr hN1 (fun j hj => Rn.unt_nf R P hj)
      replace HY4 := Lib.hid (HY4.out.below hb)
      replace HN := Lib.hid (HN.out.below hb)
      replace HB4 : Hid (Below w.heap.size w w6) := HB4.out.trans (hb.mono HB4.out.size)
      clear hown hN1 hN2 hb HQ4 HP4
      rw [HLN.out]
      go_wp2_with fail
      go_roundw
      case rel => exact ⟨y + 1, na, nc, qa, qc, by omega, by go_num, rfl, rfl, HN, HM, HY4, HB4⟩
      case measure => simp [intOf]; omega
end Go.Proofs.YtbkpedcabbppbaaDoor
