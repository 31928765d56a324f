/-
  The model's room of a row and its good rows.
-/
import Derived.Test.YtipmjobhegpdgaaGreatDoorPlD9
import Derived.Test.YtipmjobhegpdgaaGreatDoorPlF2
namespace Go.Proofs.YtipmjobhegpdgaaGreatDoor
open Go Go.RowKit Go.Deep

/-- How much more can go over a row, from a place on. -/
def Fl.left (n : Pl.Plan) (fl : Nat → Int) (r : Nat) (x : Int) : Int := if n.R (r * 3) = x then Fl.cap n r - fl r else Fl.cap n r + fl r
set_option maxRecDepth 100000 in
set_option maxHeartbeats 1000000 in
theorem sroom_any (n : Pl.Plan) (la : Option Addr) (lk : Nat) (fa : Option Addr) (fk : Nat) (wa : Option Addr) (wk : Nat) (g c : Nat) (fl : Nat → Int) (r : Nat) (x : Int) (w : World) (h : PlAt n la fa wa w) (hf : IsAt (some ⟨g, 0, none⟩) n.rn fl w) (hr : r < n.rn) (hb1 : -1000000 ≤ fl r) (hb2 : fl r ≤ 1000000) :
    Calls Tryz.prog 32 #[plV n la lk fa fk wa wk, .slice (some ⟨g, 0, none⟩) n.rn c, .int .i64 (r : Nat), .int .i64 x] w fun e w' => e = .returned (.int .i64 (Fl.left n fl r x)) ∧ Below w.heap.size w w' := by
  obtain ⟨W, hW⟩ : ∃ W, W = w.alloc (.cells #[.slice la n.rn lk, .slice fa n.sn fk, .slice wa n.hn wk] 32) := ⟨_, rfl⟩
  have HB : Hid (Below w.heap.size w W) := by show Below _ _ _; rw [hW]; exact nbel_alloc _ _
  have HR : Hid (W.rowIs w.heap.size 32 3 (rowN (plL n la lk fa fk wa wk))) := by show World.rowIs _ _ _ _ _; rw [hW]; exact rowN_alloc w _ _
  obtain ⟨b, e, c0, c1, c2⟩ := (h.below HB.out).l.at3 hr
  subst e
  obtain ⟨b2, e, cf⟩ := (hf.below HB.out).at1 hr
  cases e
  have hrz : (r : Int) < (n.rn : Int) := by omega
  have HW := Lib.hid hW
  clear hW h hf
  obtain ⟨⟨p0, p1, p2⟩, _⟩ := rowN3 HR.out
  rw [HW.out] at c0 c1 c2 cf p0 p1 p2
  by_cases hv : n.R (r * 3 + 2) = 1
  · have ev : (n.R (r * 3 + 2) == 1) = true := by simp [hv]
    by_cases hx : n.R (r * 3) = x
    · have ex : (n.R (r * 3) == x) = true := by simp [hx]
      have HE : Hid (Fl.left n fl r x = 1 - fl r) := by show _ = _; unfold Fl.left; rw [if_pos hx, Fl.cap_good hv]
      clear hv hx
      go_enter Tryz.func32, Tryz.ntmps32
      go_wp2_with fail
      go_ret
      exact ⟨by rw [HE.out]; rfl, by rw [← HW.out]; exact HB.out⟩
    · have ex : (n.R (r * 3) == x) = false := by simp [hx]
      have HE : Hid (Fl.left n fl r x = 1 + fl r) := by show _ = _; unfold Fl.left; rw [if_neg hx, Fl.cap_good hv]
      clear hv hx
      go_enter Tryz.func32, Tryz.ntmps32
      go_wp2_with fail
      go_ret
      exact ⟨by rw [HE.out]; rfl, by rw [← HW.out]; exact HB.out⟩
  · have ev : (n.R (r * 3 + 2) == 1) = false := by simp [hv]
    by_cases hx : n.R (r * 3) = x
    · have ex : (n.R (r * 3) == x) = true := by simp [hx]
      have HE : Hid (Fl.left n fl r x = 1000 - fl r) := by show _ = _; unfold Fl.left; rw [if_pos hx, Fl.cap_held hv]
      clear hv hx
      go_enter Tryz.func32, Tryz.ntmps32
      go_wp2_with fail
      go_ret
      exact ⟨by rw [HE.out]; rfl, by rw [← HW.out]; exact HB.out⟩
    · have ex : (n.R (r * 3) == x) = false := by simp [hx]
      have HE : Hid (Fl.left n fl r x = 1000 + fl r) := by show _ = _; unfold Fl.left; rw [if_neg hx, Fl.cap_held hv]
      clear hv hx
      go_enter Tryz.func32, Tryz.ntmps32
      go_wp2_with fail
      go_ret
      exact ⟨by rw [HE.out]; rfl, by rw [← HW.out]; exact HB.out⟩
/-- The good rows below i. -/
def Fl.goodTo (n : Pl.Plan) (i : Nat) : List Nat := (List.range i).filter fun r => n.R (r * 3 + 2) == 1
theorem Fl.goodTo_in {n : Pl.Plan} {i : Nat} (h : (n.R (i * 3 + 2) == 1) = true) : Fl.goodTo n (i + 1) = Fl.goodTo n i ++ [i] := by
  unfold Fl.goodTo; rw [List.range_succ, List.filter_append]; simp [h]
theorem Fl.goodTo_out {n : Pl.Plan} {i : Nat} (h : (n.R (i * 3 + 2) == 1) = false) : Fl.goodTo n (i + 1) = Fl.goodTo n i := by
  unfold Fl.goodTo; rw [List.range_succ, List.filter_append]; simp [h]
theorem Fl.goodTo_len {n : Pl.Plan} {i : Nat} : (Fl.goodTo n i).length ≤ i := by
  have := List.length_filter_le (fun r => n.R (r * 3 + 2) == 1) (List.range i)
  simpa [Fl.goodTo] using this
theorem Fl.good_iff {n : Pl.Plan} {i : Nat} : Pl.In (Fl.goodTo n n.rn).length (fun j => (((Fl.goodTo n n.rn).getD j 0 : Nat) : Int)) i ↔ Pl.Good n i := by
  constructor
  · rintro ⟨j, hj, e⟩
    have hm : (Fl.goodTo n n.rn).getD j 0 ∈ Fl.goodTo n n.rn := by
      rw [List.getD_eq_getElem?_getD, List.getElem?_eq_getElem hj]
      exact List.getElem_mem hj
    have e' : (Fl.goodTo n n.rn).getD j 0 = i := Int.ofNat.inj e
    rw [e'] at hm
    have h1 := List.mem_filter.1 hm
    exact ⟨List.mem_range.1 h1.1, by simpa using h1.2⟩
  · rintro ⟨h1, h2⟩
    have hm : i ∈ Fl.goodTo n n.rn := List.mem_filter.2 ⟨List.mem_range.2 h1, by simpa using h2⟩
    obtain ⟨j, hj, e⟩ := List.getElem_of_mem hm
    exact ⟨j, hj, by simp [List.getD_eq_getElem?_getD, hj, e]⟩
set_option maxRecDepth 100000 in
set_option maxHeartbeats 2000000 in
theorem sgood_any (n : Pl.Plan) (la : Option Addr) (lk : Nat) (fa : Option Addr) (fk : Nat) (wa : Option Addr) (wk : Nat) (w : World) (h : PlAt n la fa wa w) (hs : PlSmall n) :
    Calls Tryz.prog 30 #[plV n la lk fa fk wa wk] w fun e w' => (∃ v, e = .returned v ∧ w'.ownsRow w.heap.size 2 1 v (Fl.goodTo n n.rn).length (numsV (Fl.goodTo n n.rn))) ∧ Below w.heap.size w w' := by
  obtain ⟨W0, hW⟩ : ∃ W, W = (w.alloc (.cells #[.slice la n.rn lk, .slice fa n.sn fk, .slice wa n.hn wk] 32)).alloc (.cells #[] 2) := ⟨_, rfl⟩
  have HB : Hid (Below w.heap.size w W0) := by show Below _ _ _; rw [hW]; exact ((Below.refl _ _).alloc (Nat.le_refl _) _).alloc (by simp) _
  have HR : Hid (W0.rowIs w.heap.size 32 3 (rowN (plL n la lk fa fk wa wk))) := by show World.rowIs _ _ _ _ _; rw [hW]; exact nrow_below (rowN_alloc w _ _) (nbel_alloc _ _)
  have HO3 : Hid (W0.ownsRow (w.heap.size + 1) 2 1 (.slice (some ⟨w.heap.size + 1, 0, none⟩) (Fl.goodTo n 0).length 0) (Fl.goodTo n 0).length (numsV (Fl.goodTo n 0))) := by
    show World.ownsRow _ _ _ _ _ _ _
    rw [hW]
    have := World.ownsRow_made (base := w.heap.size + 1) (e := 2) (size := 1) (w.alloc (.cells #[.slice la n.rn lk, .slice fa n.sn fk, .slice wa n.hn wk] 32)) #[] 0 (by simp) (Nat.zero_le _) rfl
    have e0 : Fl.goodTo n 0 = [] := rfl
    rw [e0]
    simpa using this
  have H := Lib.hid h
  have hrn := hs.1
  have HW := Lib.hid hW
  obtain ⟨i1, hi1, hy0, hy1, hy2⟩ := info_parts yinfo_i64
  have HPI := Lib.hid (And.intro hi1 (And.intro hy0 (And.intro hy1 hy2)))
  clear hW h hs hi1 hy0 hy1 hy2
  go_enter Tryz.func30, Tryz.ntmps30
  go_wp2_with fail
  rw [← HW.out]
  go_loopw [3, 4] (fun dv iv wr => ∃ (i : Nat), i ≤ n.rn ∧ iv = .int .i64 i ∧ Hid (wr.ownsRow (w.heap.size + 1) 2 1 dv (Fl.goodTo n i).length (numsV (Fl.goodTo n i))) ∧ Hid (wr.rowIs w.heap.size 32 3 (rowN (plL n la lk fa fk wa wk))) ∧ Hid (Below w.heap.size w wr)) (fun _ iv _ => n.rn - (intOf iv).toNat)
  case atStart => exact ⟨0, Nat.zero_le _, rfl, HO3, HR, HB⟩
  case round =>
    obtain ⟨i, hi, rfl, hO, hR, hB⟩ := hrel
    clear HO3 HB HR HW
    obtain ⟨⟨p0, p1, p2⟩, _⟩ := rowN3 hR.out
    by_cases hlt : i < n.rn
    · have hltz : (i : Int) < (n.rn : Int) := by omega
      obtain ⟨b, e, c0, c1, c2⟩ := (H.out.below hB.out).l.at3 hlt
      subst e
      cases hv : n.R (i * 3 + 2) == 1 with
      | true =>
        have HSTEP := Lib.hid (Fl.goodTo_in hv)
        have hll := Fl.goodTo_len (n := n) (i := i)
        have hrl := hR.out.lt
        obtain ⟨hi1, hy0, hy1, hy2⟩ := HPI.out
        go_wp2_with (at_builtin; refine wpList_append_own_at _ rfl _ _ 23 rfl (w.heap.size + 1) 2 i1 _ 1 8 Tryz.underlying23 hi1 hy0 hy1 hy2 rfl (by decide) _ _ _ rfl (hO.out.alloc _) ⟨wr.heap.size, 0, none⟩ 1 1 [.int .i64 (i : Nat)] rfl rfl ?d1 ?d2 ?d3 ?d4 ?d5 ?_)
        case d1 =>
          intro q x hq
          match q, hq with
          | 0, hq =>
            simp at hq
            subst hq
            exact (rowN_alloc wr [.int .i64 (i : Nat)] 2).cell (i := 0) (by simp)
        case d2 =>
          intro x hx
          simp at hx
          subst hx
          rfl
        case d3 => unfold maxLen; omega
        case d4 => omega
        case d5 => simp; omega
        intro v5 W5 hown hgrow hnil hat
        have HB5 : Hid (Below w.heap.size w W5) := (hB.out.alloc hB.out.size _).grown hgrow (by simp; omega) (fun k e => by have := (hO.out.lt k e).1; omega)
        have HR5 : Hid (W5.rowIs w.heap.size 32 3 (rowN (plL n (some ⟨b, 0, none⟩) lk fa fk wa wk))) := by
          have h1 : (wr.alloc (.cells #[.int .i64 (i : Nat)] 2)).rowIs w.heap.size 32 3 (rowN (plL n (some ⟨b, 0, none⟩) lk fa fk wa wk)) := nrow_below hR.out (nbel_alloc _ _)
          exact h1.of_block (hgrow.block _ h1.lt (fun e => by have := (hO.out.lt _ e.symm).1; omega))
        have HO5 : Hid (W5.ownsRow (w.heap.size + 1) 2 1 v5 (Fl.goodTo n (i + 1)).length (numsV (Fl.goodTo n (i + 1)))) := by
          rw [HSTEP.out, List.length_append]
          have e1 : numsV (Fl.goodTo n i ++ [i]) = numsV (Fl.goodTo n i) ++ [.int .i64 (i : Nat)] := by simp [numsV]
          rw [e1]
          exact hown
        clear hown hgrow hnil hat hO hB hR p0 p1 p2 c0 c1 c2
        go_wp2_with fail
        go_roundw
        case rel => exact ⟨i + 1, by omega, by go_num, HO5, HR5, HB5⟩
        case measure => simp [intOf]; omega
      | false =>
        have HSTEP := Lib.hid (Fl.goodTo_out hv)
        go_wp2_with fail
        go_roundw
        case rel => exact ⟨i + 1, by omega, by go_num, by rw [HSTEP.out]; exact hO, hR, hB⟩
        case measure => simp [intOf]; omega
    · obtain rfl : i = n.rn := by omega
      go_wp2_with fail
      go_ret
      exact ⟨⟨_, rfl, own_low hO.out (by omega)⟩, hB.out⟩
end Go.Proofs.YtipmjobhegpdgaaGreatDoor
