/-
  The program's WorkLeast.
-/
import Derived.Test.YtganlipebndeoaaDoorJbBy
import Derived.Test.YtganlipebndeoaaDoorEt
import Derived.Test.YtganlipebndeoaaDoorAsC
namespace Go.Proofs.YtganlipebndeoaaDoor
open Go.RowKit Go.Deep

/-- The value of a plan's answer. -/
abbrev woV (a : Option Addr) (m k : Nat) (ed cd : Int) : Value := .agg #[.slice a m k, .int .i64 ed, .int .i64 cd]
/-- What is told of a plan. -/
def WoEnd (B m : Nat) (s : Nat → Int) (ed cd : Int) (e : Ending) (W : World) : Prop := ∃ a k, e = .returned (woV a m k ed cd) ∧ LsOwn 2 1 B m a k s W
theorem jput3 {V : World} {g : Nat} {x0 x1 x2 : Value} {t : TypeId} (h : V.rowIs g t 3 (rowN [x0, x1, x2])) (y0 y1 y2 : Value) : (((V.setCell ⟨g, 0, none⟩ y0).setCell ⟨g, 1, none⟩ y1).setCell ⟨g, 2, none⟩ y2).rowIs g t 3 (rowN [y0, y1, y2]) :=
  rowN_put (rowN_put (rowN_put h 0 _ (by simp)) 1 _ (by simp)) 2 _ (by simp)
theorem jbel3 {V w : World} {B g : Nat} (h : Below B w V) (hg : B ≤ g) (y0 y1 y2 : Value) : Below B w (((V.setCell ⟨g, 0, none⟩ y0).setCell ⟨g, 1, none⟩ y1).setCell ⟨g, 2, none⟩ y2) :=
  ((h.setCell (p := ⟨g, 0, none⟩) hg _).setCell (p := ⟨g, 1, none⟩) hg _).setCell (p := ⟨g, 2, none⟩) hg _
theorem jblk3 (V : World) {g k : Nat} (hk : k ≠ g) (y0 y1 y2 : Value) : (((V.setCell ⟨g, 0, none⟩ y0).setCell ⟨g, 1, none⟩ y1).setCell ⟨g, 2, none⟩ y2).heap[k]? = V.heap[k]? := by
  rw [Below.heap_setCell _ _ _ _ (by show k ≠ g; exact hk), Below.heap_setCell _ _ _ _ (by show k ≠ g; exact hk), Below.heap_setCell _ _ _ _ (by show k ≠ g; exact hk)]
set_option maxRecDepth 100000 in
set_option maxHeartbeats 4000000 in
theorem tellWork_ok (a : Option Addr) (m k : Nat) (bs : Nat → Je) (s : Nat → Int) (w : World) (h : ShAt a m bs s w) (hm : m ≤ 1048576) (hb : Jb.Bnd m bs s 1000000) :
    Calls Tryd.prog 18 #[.slice a m k, .nilIface] w fun e w' => WoEnd w.heap.size m s (Jb.endTo bs s m) 0 e w' ∧ Below w.heap.size w w' := by
  obtain ⟨W, hW⟩ : ∃ W, W = w.alloc (.cells #[.slice none 0 0, .int .i64 0, .int .i64 0] 26) := ⟨_, rfl⟩
  have HB : Hid (Below w.heap.size w W) := by show Below _ _ _; rw [hW]; exact nbel_alloc _ _
  have HO : Hid (W.rowIs w.heap.size 26 3 (rowN [.slice none 0 0, .int .i64 0, .int .i64 0])) := by show W.rowIs _ _ _ _; rw [hW]; exact rowN_alloc _ _ _
  have H := Lib.hid (h.below HB.out)
  have HBN := Lib.hid hb
  have HW := Lib.hid hW
  have HSW : Hid (w.heap.size < W.heap.size) := HO.out.lt
  clear hW h hb
  go_enter Tryd.func18, Tryd.ntmps18
  go_wp2_with fail
  rw [← HW.out]
  clear HW
  refine (rStarts_any a m k bs s _ H.out hm).mono ?_
  rintro e w1 ⟨⟨rfl, hk⟩, hb⟩
  replace HO := Lib.hid (nrow_below HO.out hb)
  replace HB : Hid (Below w.heap.size w w1) := HB.out.trans (hb.mono HB.out.size)
  replace H := Lib.hid (H.out.below hb)
  have HK := Lib.hid hk
  clear hb hk
  go_wp2_with fail
  refine (rEnd_any a m k bs s _ H.out hm HBN.out).mono ?_
  rintro e w2 ⟨rfl, hb⟩
  replace HO := Lib.hid (nrow_below HO.out hb)
  replace HB : Hid (Below w.heap.size w w2) := HB.out.trans (hb.mono HB.out.size)
  replace HK := Lib.hid (HK.out.below hb)
  clear hb H HBN
  obtain ⟨⟨o0, o1, o2⟩, z0, z1, z2⟩ := rowN3 HO.out
  have hol := HO.out.lt
  obtain ⟨ed, hed⟩ : ∃ ed, ed = Jb.endTo bs s m := ⟨_, rfl⟩
  rw [← hed]
  have HED := Lib.hid hed
  clear hed
  go_wp2_with fail
  have zr := jput3 HO.out (.slice (some ⟨W.heap.size, 0, none⟩) m m) (.int .i64 ed) (.int .i64 0)
  have zb := jbel3 (g := w.heap.size) HB.out (Nat.le_refl _) (.slice (some ⟨W.heap.size, 0, none⟩) m m) (.int .i64 ed) (.int .i64 0)
  have zk := HK.out.block (jblk3 w2 (g := w.heap.size) (k := W.heap.size) (by have := HSW.out; omega) (.slice (some ⟨W.heap.size, 0, none⟩) m m) (.int .i64 ed) (.int .i64 0))
  generalize ((w2.setCell ⟨w.heap.size, 0, none⟩ (.slice (some ⟨W.heap.size, 0, none⟩) m m)).setCell ⟨w.heap.size, 1, none⟩ (.int .i64 ed)).setCell ⟨w.heap.size, 2, none⟩ (.int .i64 0) = Z at zr zb zk ⊢
  obtain ⟨⟨c0, c1, c2⟩, _⟩ := rowN3 zr
  refine bodyPost_ret (v := woV (some ⟨W.heap.size, 0, none⟩) m m ed 0) (by simp only [results, Tryd.results18]; simp [go_sem, c0, c1, c2]) rfl ⟨⟨some ⟨W.heap.size, 0, none⟩, m, by rw [← HED.out], Or.inr ⟨W.heap.size, rfl, by have := HSW.out; omega, by simpa using zk⟩⟩, zb⟩
set_option maxRecDepth 100000 in
set_option maxHeartbeats 4000000 in
theorem tellWork_bad (t : ByteArray) (c : Int) (w : World) (hg : Et w) :
    Calls Tryd.prog 18 #[.slice none 0 0, errV t c] w fun e w' => e = .returned (woV none 0 0 0 c) ∧ Below w.heap.size w w' := by
  obtain ⟨W, hW⟩ : ∃ W, W = w.alloc (.cells #[.slice none 0 0, .int .i64 0, .int .i64 0] 26) := ⟨_, rfl⟩
  have HB : Hid (Below w.heap.size w W) := by show Below _ _ _; rw [hW]; exact nbel_alloc _ _
  have HO : Hid (W.rowIs w.heap.size 26 3 (rowN [.slice none 0 0, .int .i64 0, .int .i64 0])) := by show W.rowIs _ _ _ _; rw [hW]; exact rowN_alloc _ _ _
  have HW := Lib.hid hW
  have HET := Lib.hid (hg.below HB.out)
  clear hW hg
  go_enter Tryd.func18, Tryd.ntmps18
  go_wp2_with fail
  rw [← HW.out]
  clear HW
  refine (codeOf_any _ c (finds_one t c) _ HET.out).mono ?_
  rintro e w1 ⟨rfl, hb⟩
  have HO1 := Lib.hid (nrow_below HO.out hb)
  have HB1 : Hid (Below w.heap.size w w1) := HB.out.trans (hb.mono HB.out.size)
  clear hb HO HB
  obtain ⟨⟨o0, o1, o2⟩, z0, z1, z2⟩ := rowN3 HO1.out
  have hol := HO1.out.lt
  go_wp2_with fail
  have zr := jput3 HO1.out (.slice none 0 0) (.int .i64 0) (.int .i64 c)
  have zb := jbel3 (g := w.heap.size) HB1.out (Nat.le_refl _) (.slice none 0 0) (.int .i64 0) (.int .i64 c)
  generalize ((w1.setCell ⟨w.heap.size, 0, none⟩ (.slice none 0 0)).setCell ⟨w.heap.size, 1, none⟩ (.int .i64 (0))).setCell ⟨w.heap.size, 2, none⟩ (.int .i64 c) = Z at zr zb ⊢
  obtain ⟨⟨c0, c1, c2⟩, _⟩ := rowN3 zr
  exact bodyPost_ret (v := woV none 0 0 0 c) (by simp only [results, Tryd.results18]; simp [go_sem, c0, c1, c2]) rfl ⟨rfl, zb⟩
set_option maxRecDepth 100000 in
set_option maxHeartbeats 4000000 in
theorem checkJobs_any (a : Option Addr) (m k : Nat) (bs : Nat → Je) (w : World) (h : JbsAt a m bs w) (hs : JSm m bs) :
    Calls Tryd.prog 31 #[.slice a m k] w fun e w' => e = .returned (if 400 < m then errV ⟨#[104, 111, 119, 32, 109, 97, 110, 121, 32, 106, 111, 98, 115]⟩ 2 else if dB (JRight m bs) = true then .nilIface else errV ⟨#[116, 104, 101, 32, 106, 111, 98, 115]⟩ 1) ∧ Below w.heap.size w w' := by
  by_cases hm : 400 < m
  · have hz : (400 : Int) < (m : Int) := by omega
    rw [if_pos hm]
    clear h
    go_enter Tryd.func31, Tryd.ntmps31
    go_wp2_with fail
    go_ret
    exact ⟨rfl, Below.refl _ _⟩
  have hz : ¬ (400 : Int) < (m : Int) := by omega
  rw [if_neg hm]
  have H := Lib.hid h
  have HS := Lib.hid hs
  clear h hs hm
  by_cases c : JRight m bs
  · rw [if_pos (dB_tt c)]
    have HC := Lib.hid (dB_tt c)
    clear c
    go_enter Tryd.func31, Tryd.ntmps31
    go_wp2_with fail
    refine (implJobs_any a m k bs _ H.out HS.out).mono ?_
    rintro e w1 ⟨rfl, hb⟩
    rw [HC.out]
    have HB := Lib.hid hb
    clear hb
    go_wp2_with fail
    go_ret
    exact ⟨rfl, HB.out⟩
  · rw [if_neg (by rw [dB_ff c]; simp)]
    have HC := Lib.hid (dB_ff c)
    clear c
    go_enter Tryd.func31, Tryd.ntmps31
    go_wp2_with fail
    refine (implJobs_any a m k bs _ H.out HS.out).mono ?_
    rintro e w1 ⟨rfl, hb⟩
    rw [HC.out]
    have HB := Lib.hid hb
    clear hb
    go_wp2_with fail
    go_ret
    exact ⟨rfl, HB.out⟩
/-- The code of the soonest starts. -/
noncomputable def Jb.lcode (m : Nat) (bs : Nat → Je) : Int := if 400 < m then 2 else if dB (JRight m bs) = true then 0 else 1
/-- What the inner function hands back. -/
def LwEnd (m : Nat) (bs : Nat → Je) (e : Ending) (W : World) : Prop :=
  (JRight m bs ∧ ∃ a k, e = .returned (.tuple #[.slice a m k, .nilIface]) ∧ ShAt a m bs (Jb.least bs) W) ∨ (¬ JRight m bs ∧ ∃ t, e = .returned (.tuple #[.slice none 0 0, errV t (Jb.lcode m bs)]))
set_option maxRecDepth 100000 in
set_option maxHeartbeats 4000000 in
theorem leastWork_any (a : Option Addr) (m k : Nat) (bs : Nat → Je) (w : World) (h : JbsAt a m bs w) (hs : JSm m bs) :
    Calls Tryd.prog 19 #[.slice a m k] w fun e w' => LwEnd m bs e w' ∧ Below w.heap.size w w' := by
  have H := Lib.hid h
  have HS := Lib.hid hs
  clear h hs
  go_enter Tryd.func19, Tryd.ntmps19
  go_wp2_with fail
  refine (checkJobs_any a m k bs _ H.out HS.out).mono ?_
  rintro e w1 ⟨rfl, hb⟩
  have HB := Lib.hid hb
  replace H := Lib.hid (H.out.below hb)
  clear hb
  by_cases c1 : 400 < m
  · rw [if_pos c1]
    have HC : Hid (¬ JRight m bs ∧ Jb.lcode m bs = 2) := ⟨fun k => by have := k.1; omega, by unfold Jb.lcode; rw [if_pos c1]⟩
    clear c1
    go_wp2_with fail
    exact bodyPost_ret (v := .tuple #[.slice none 0 0, errV ⟨#[104, 111, 119, 32, 109, 97, 110, 121, 32, 106, 111, 98, 115]⟩ 2]) (by simp only [results, Tryd.results19]; simp [go_sem]) rfl ⟨Or.inr ⟨HC.out.1, _, by rw [HC.out.2]⟩, HB.out⟩
  rw [if_neg c1]
  by_cases c2 : JRight m bs
  · rw [if_pos (dB_tt c2)]
    have HC := Lib.hid c2
    clear c1 c2
    go_wp2_with fail
    refine (leastBy_any a m k bs _ H.out HC.out HS.out).mono ?_
    rintro e w2 ⟨⟨a', k', rfl, hsh⟩, hb⟩
    have HB2 : Hid (Below w.heap.size w w2) := HB.out.trans (hb.mono HB.out.size)
    have HSH := Lib.hid hsh
    clear hb hsh
    go_wp2_with fail
    exact bodyPost_ret (v := .tuple #[.slice a' m k', .nilIface]) (by simp only [results, Tryd.results19]; simp [go_sem]) rfl ⟨Or.inl ⟨HC.out, _, _, rfl, HSH.out⟩, HB2.out⟩
  · rw [if_neg (by rw [dB_ff c2]; simp)]
    have HC : Hid (¬ JRight m bs ∧ Jb.lcode m bs = 1) := ⟨c2, by unfold Jb.lcode; rw [if_neg c1, dB_ff c2]; rfl⟩
    clear c1 c2
    go_wp2_with fail
    exact bodyPost_ret (v := .tuple #[.slice none 0 0, errV ⟨#[116, 104, 101, 32, 106, 111, 98, 115]⟩ 1]) (by simp only [results, Tryd.results19]; simp [go_sem]) rfl ⟨Or.inr ⟨HC.out.1, _, by rw [HC.out.2]⟩, HB.out⟩
/-- What both sides tell of the soonest starts. -/
noncomputable def Jb.lnum (m : Nat) (bs : Nat → Je) : Nat := if dB (JRight m bs) = true then m else 0
noncomputable def Jb.lend (m : Nat) (bs : Nat → Je) : Int := if dB (JRight m bs) = true then Jb.endTo bs (Jb.least bs) m else 0
set_option maxRecDepth 100000 in
set_option maxHeartbeats 4000000 in
theorem implLeastW_any (a : Option Addr) (m k : Nat) (bs : Nat → Je) (w : World) (h : JbsAt a m bs w) (hs : JSm m bs) (hg : Et w) :
    Calls Tryd.prog 7 #[.slice a m k] w fun e w' => WoEnd w.heap.size (Jb.lnum m bs) (Jb.least bs) (Jb.lend m bs) (Jb.lcode m bs) e w' ∧ Below w.heap.size w w' := by
  obtain ⟨W, hW⟩ : ∃ W, W = w.alloc (.cells #[.slice none 0 0, .int .i64 0, .int .i64 0] 26) := ⟨_, rfl⟩
  have HB : Hid (Below w.heap.size w W) := by show Below _ _ _; rw [hW]; exact nbel_alloc _ _
  have HO : Hid (W.rowIs w.heap.size 26 3 (rowN [.slice none 0 0, .int .i64 0, .int .i64 0])) := by show W.rowIs _ _ _ _; rw [hW]; exact rowN_alloc _ _ _
  have HSW : Hid (w.heap.size < W.heap.size) := HO.out.lt
  have H := Lib.hid (h.below HB.out)
  have HG := Lib.hid (hg.below HB.out)
  have HS := Lib.hid hs
  have HW := Lib.hid hW
  clear hW h hs hg
  go_enter Tryd.func7, Tryd.ntmps7
  go_wp2_with fail
  rw [← HW.out]
  clear HW
  refine (leastWork_any a m k bs _ H.out HS.out).mono ?_
  rintro e w1 ⟨hE, hb⟩
  replace HO := Lib.hid (nrow_below HO.out hb)
  replace HB : Hid (Below w.heap.size w w1) := HB.out.trans (hb.mono HB.out.size)
  replace HG := Lib.hid (HG.out.below hb)
  have HS1 : Hid (W.heap.size ≤ w1.heap.size) := hb.size
  clear hb
  rcases hE with ⟨hr, a', k', rfl, hsh⟩ | ⟨hr, t, rfl⟩
  · have HN : Hid (Jb.lnum m bs = m ∧ Jb.lend m bs = Jb.endTo bs (Jb.least bs) m ∧ Jb.lcode m bs = 0) := by
      have e := dB_tt hr
      have := hr.1
      exact ⟨by unfold Jb.lnum; rw [if_pos e], by unfold Jb.lend; rw [if_pos e], by unfold Jb.lcode; rw [if_neg (by omega), if_pos e]⟩
    have HSH := Lib.hid hsh
    have HBD : Hid (Jb.Bnd m bs (Jb.least bs) 1000000) := by
      intro j hj; have := Jb.least_bnd hr m (Nat.le_refl _) j hj; have := hr.1; omega
    have hm : m ≤ 1048576 := by have := hr.1; omega
    clear hsh hr
    go_wp2_with fail
    refine (tellWork_ok a' m k' bs _ _ HSH.out hm HBD.out).mono ?_
    rintro e w2 ⟨⟨a2, k2, rfl, hls⟩, hb⟩
    replace HO := Lib.hid (nrow_below HO.out hb)
    replace HB : Hid (Below w.heap.size w w2) := HB.out.trans (hb.mono HB.out.size)
    have HLS := Lib.hid hls
    clear hb hls
    obtain ⟨⟨o0, o1, o2⟩, z0, z1, z2⟩ := rowN3 HO.out
    have hol := HO.out.lt
    obtain ⟨ed, hed⟩ : ∃ ed, ed = Jb.endTo bs (Jb.least bs) m := ⟨_, rfl⟩
    rw [← hed] at HN ⊢
    clear hed
    go_wp2_with fail
    have zr := jput3 HO.out (.slice a2 m k2) (.int .i64 ed) (.int .i64 0)
    have zb := jbel3 (g := w.heap.size) HB.out (Nat.le_refl _) (.slice a2 m k2) (.int .i64 ed) (.int .i64 0)
    have zk := HLS.out.same (fun g hg _ => jblk3 w2 (g := w.heap.size) (k := g) (by have := HSW.out; have := HS1.out; omega) (.slice a2 m k2) (.int .i64 ed) (.int .i64 0))
    generalize ((w2.setCell ⟨w.heap.size, 0, none⟩ (.slice a2 m k2)).setCell ⟨w.heap.size, 1, none⟩ (.int .i64 ed)).setCell ⟨w.heap.size, 2, none⟩ (.int .i64 0) = Z at zr zb zk ⊢
    obtain ⟨⟨c0, c1, c2⟩, _⟩ := rowN3 zr
    refine bodyPost_ret (v := woV a2 m k2 ed 0) (by simp only [results, Tryd.results7]; simp [go_sem, c0, c1, c2]) rfl ⟨⟨a2, k2, by rw [HN.out.1, HN.out.2.1, HN.out.2.2], by rw [HN.out.1]; exact zk.low (by have := HSW.out; have := HS1.out; omega)⟩, zb⟩
  · have HN : Hid (Jb.lnum m bs = 0 ∧ Jb.lend m bs = 0) := by
      have e := dB_ff hr
      exact ⟨by unfold Jb.lnum; rw [e]; rfl, by unfold Jb.lend; rw [e]; rfl⟩
    obtain ⟨c, hc⟩ : ∃ c, c = Jb.lcode m bs := ⟨_, rfl⟩
    rw [← hc]
    have HC := Lib.hid hc
    clear hr hc
    go_wp2_with fail
    refine (tellWork_bad t c _ HG.out).mono ?_
    rintro e w2 ⟨rfl, hb⟩
    replace HO := Lib.hid (nrow_below HO.out hb)
    replace HB : Hid (Below w.heap.size w w2) := HB.out.trans (hb.mono HB.out.size)
    clear hb
    obtain ⟨⟨o0, o1, o2⟩, z0, z1, z2⟩ := rowN3 HO.out
    have hol := HO.out.lt
    go_wp2_with fail
    have zr := jput3 HO.out (.slice none 0 0) (.int .i64 0) (.int .i64 c)
    have zb := jbel3 (g := w.heap.size) HB.out (Nat.le_refl _) (.slice none 0 0) (.int .i64 0) (.int .i64 c)
    generalize ((w2.setCell ⟨w.heap.size, 0, none⟩ (.slice none 0 0)).setCell ⟨w.heap.size, 1, none⟩ (.int .i64 0)).setCell ⟨w.heap.size, 2, none⟩ (.int .i64 c) = Z at zr zb ⊢
    obtain ⟨⟨c0, c1, c2⟩, _⟩ := rowN3 zr
    refine bodyPost_ret (v := woV none 0 0 0 c) (by simp only [results, Tryd.results7]; simp [go_sem, c0, c1, c2]) rfl ⟨⟨none, 0, by rw [HN.out.1, HN.out.2, ← HC.out], by rw [HN.out.1]; exact Or.inl ⟨rfl, rfl, rfl⟩⟩, zb⟩
end Go.Proofs.YtganlipebndeoaaDoor
