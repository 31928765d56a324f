/-
  HistoryUnpack, both sides.
-/
import Derived.Test.YtmejmpdljckfgaaDoorHsI2
import Derived.Test.YtmejmpdljckfgaaDoorHsS2
namespace Go.Proofs.YtmejmpdljckfgaaDoor
open Go.RowKit Go.Deep

namespace Hs
def UpOk (F : Nat → Int) (n : Nat) (c : Int) : Prop := Right F n ∧ n ≠ 0 ∧ 0 ≤ c ∧ c ≤ 300
open Classical in
/-- How many values are told. -/
noncomputable def cnt (F : Nat → Int) (n : Nat) (c : Int) : Nat := if UpOk F n c then c.toNat else 0
theorem cnt_yes {F : Nat → Int} {n : Nat} {c : Int} (h : UpOk F n c) : cnt F n c = c.toNat := if_pos h
theorem cnt_no {F : Nat → Int} {n : Nat} {c : Int} (h : ¬ UpOk F n c) : cnt F n c = 0 := if_neg h
theorem cnt_len (F : Nat → Int) (n : Nat) (c : Int) : cnt F n c ≤ 300 := by
  by_cases h : UpOk F n c
  · rw [cnt_yes h]; have := h.2.2; omega
  · rw [cnt_no h]; omega
def val (F : Nat → Int) (n : Nat) (j : Nat) : Int := look F j n
def vals (F : Nat → Int) (n i : Nat) : List Int := (List.range i).map (val F n)
theorem vals_succ (F : Nat → Int) (n i : Nat) : vals F n (i + 1) = vals F n i ++ [val F n i] := by unfold vals; rw [List.range_succ, List.map_append]; rfl
theorem vals_len (F : Nat → Int) (n i : Nat) : (vals F n i).length = i := by simp [vals]
theorem vals_at (F : Nat → Int) (n i j : Nat) (h : j < i) : (vals F n i).getD j 0 = val F n j := by simp [vals, List.getD_eq_getElem?_getD, h]
end Hs
def hV (l : List Int) : List Value := l.map fun x : Int => Value.int .i64 x
theorem hV_app (l : List Int) (x : Int) : hV (l ++ [x]) = hV l ++ [.int .i64 x] := by simp [hV]
theorem cyo_ints {T : TypeId} {B : Nat} {v : Value} {l : List Int} {W : World} (h : W.ownsRow B T 1 v l.length (hV l)) : ∃ a k, v = .slice a l.length k ∧ CyO T B l.length a k (fun j => l.getD j 0) W := by
  rcases h.2 with ⟨rfl, h2⟩ | ⟨g, cap, cur, rfl, e2, e3, e4, e5, e6, e7⟩
  · exact ⟨none, 0, by rw [h2], Or.inl ⟨rfl, h2, rfl⟩⟩
  · refine ⟨some ⟨g, 0, none⟩, cap, rfl, Or.inr ⟨g, rfl, e2, cap * 1, (fun i => cur[i]?.getD undef), by omega, ⟨cur, e3, e6, fun i hi => ?_⟩, fun j hj => ?_⟩⟩
    · show cur[i]? = some (cur[i]?.getD undef)
      rw [Array.getElem?_eq_getElem (by omega)]
      rfl
    · have h1 : (cur.toList.take (l.length * 1))[j]? = (hV l)[j]? := by rw [e7]
      rw [List.getElem?_take, if_pos (by omega), Array.getElem?_toList] at h1
      show cur[j]?.getD undef = _
      rw [h1]
      simp [hV, List.getD_eq_getElem?_getD, hj]
theorem hinfo_int : (Tryd.prog.info? 2).map (fun i => (i.zero, i.size, i.bytes)) = some (some (.int .i64 0), 1, 8) := by kernel_rfl
set_option maxRecDepth 100000 in
set_option maxHeartbeats 8000000 in
theorem implUp_any (la : Option Addr) (n cap : Nat) (F : Nat → Int) (c : Int) (w : World) (h : IsAt la (n * 2) F w) (hn : n ≤ 1048576) :
    Calls Tryd.prog 27 #[.slice la n cap, .int .i64 c] w fun e w' => (∃ a k, e = .returned (.slice a (Hs.cnt F n c) k) ∧ CyO 2 w.heap.size (Hs.cnt F n c) a k (Hs.val F n) w') ∧ Below w.heap.size w w' := by
  have H := Lib.hid h
  clear h
  go_enter Tryd.func27, Tryd.ntmps27
  go_wp2_with fail
  refine (implPR_any la n cap F w H.out hn).mono ?_
  rintro e w1 ⟨rfl, hb⟩
  have HB := Lib.hid hb
  clear hb
  by_cases cr : Hs.Right F n
  case neg =>
    have HE := Lib.hid (Hs.cnt_no (show ¬ Hs.UpOk F n c from fun h => cr h.1))
    rw [Mt.dB_ff cr]
    clear cr
    go_wp2_with fail
    go_ret
    exact ⟨⟨none, 0, by rw [HE.out]; rfl, by rw [HE.out]; exact CyO.nil⟩, HB.out⟩
  rw [Mt.dB_tt cr]
  have HR := Lib.hid cr
  clear cr
  by_cases c0 : n = 0
  · have HE := Lib.hid (Hs.cnt_no (show ¬ Hs.UpOk F n c from fun h => h.2.1 c0))
    have c1 : ((n : Int) == 0) = true := by simp; omega
    clear c0
    go_wp2_with fail
    go_ret
    exact ⟨⟨none, 0, by rw [HE.out]; rfl, by rw [HE.out]; exact CyO.nil⟩, HB.out⟩
  have c1 : ((n : Int) == 0) = false := by simp; omega
  have HC0 := Lib.hid c0
  clear c0
  go_wp2_with fail
  refine (awithin_any _ _ _).mono ?_
  rintro e w2 ⟨rfl, hw2⟩
  subst hw2
  by_cases cc : 0 ≤ c ∧ c ≤ 300
  case neg =>
    have HE := Lib.hid (Hs.cnt_no (show ¬ Hs.UpOk F n c from fun h => cc h.2.2))
    rw [decide_eq_false cc]
    clear cc
    go_wp2_with fail
    go_ret
    exact ⟨⟨none, 0, by rw [HE.out]; rfl, by rw [HE.out]; exact CyO.nil⟩, HB.out⟩
  rw [decide_eq_true cc]
  have HE := Lib.hid (Hs.cnt_yes (show Hs.UpOk F n c from ⟨HR.out, HC0.out, cc⟩))
  obtain ⟨m, rfl⟩ : ∃ m : Nat, c = m := ⟨c.toNat, by omega⟩
  have hm3 : m ≤ 300 := by omega
  clear cc
  have hmk := run_make_row' (P := Tryd.prog) 56 2 (.int .i64 0) 8 Tryd.underlying56 hinfo_int rfl .i64 .i64 m (by omega) (by omega)
  have hHS := HB.out.size
  have HST : Hid (IsPart 2 w2.heap.size m 0 (Hs.val F n) (w2.alloc (.cells (madeCells #[.int .i64 0] m) 2))) := ⟨_, World.rowIs_made w2 (.int .i64 0) m 2, fun j hj => absurd hj (by omega)⟩
  have HB2 := Lib.hid (HB.out.alloc hHS (.cells (madeCells #[.int .i64 0] m) 2))
  obtain ⟨g, hg⟩ : ∃ g, g = w2.heap.size := ⟨_, rfl⟩
  have HG := Lib.hid hg
  have HGL : Hid (w.heap.size ≤ g) := by show _ ≤ g; rw [hg]; exact hHS
  clear hg hHS
  go_wp2_with fail
  rw [← HG.out] at HST ⊢
  clear hmk HG
  go_loopw [6, 24] (fun _ iv wr => ∃ (i : Nat), i ≤ m ∧ iv = .int .i64 i ∧ Hid (IsPart 2 g m i (Hs.val F n) wr) ∧ Hid (Below w.heap.size w wr)) (fun _ iv _ => m - (intOf iv).toNat)
  case atStart => exact ⟨0, Nat.zero_le _, rfl, HST, HB2⟩
  case round =>
    obtain ⟨i, hi, rfl, hP, hB⟩ := hrel
    clear HST HB2
    by_cases hlt : i < m
    · have hltz : (i : Int) < (m : Int) := by omega
      go_wp2_with fail
      refine (valueAt_any la n cap F i wr (H.out.below hB.out) HR.out).mono ?_
      rintro e w3 ⟨rfl, hb⟩
      have hP3 := hP.out.block (hb.block _ hP.out.lt)
      have HB3 : Hid (Below w.heap.size w w3) := hB.out.trans (hb.mono hB.out.size)
      obtain ⟨x, hx⟩ : ∃ x, x = Hs.look F i n := ⟨_, rfl⟩
      have HP4 := Lib.hid (hP3.put x (by rw [hx]; rfl))
      obtain ⟨u, y0⟩ := hP3.cell (j := i) (by omega)
      have z0 := hP3.frozen i
      have hgl := hP3.lt
      rw [← hx]
      clear hP3 hb hP hB hx
      go_wp2_with fail
      go_roundw
      case rel => exact ⟨i + 1, by omega, by go_num, HP4, HB3.out.setCell (p := ⟨g, i, none⟩) HGL.out _⟩
      case measure => simp [intOf]; omega
    · obtain rfl : i = m := by omega
      go_wp2_with fail
      go_ret
      exact ⟨⟨some ⟨g, 0, none⟩, i, by rw [HE.out, Int.toNat_natCast]; rfl, by rw [HE.out, Int.toNat_natCast]; exact Or.inr ⟨g, rfl, HGL.out, hP.out.full (Nat.le_refl _)⟩⟩, hB.out⟩
end Go.Proofs.YtmejmpdljckfgaaDoor
