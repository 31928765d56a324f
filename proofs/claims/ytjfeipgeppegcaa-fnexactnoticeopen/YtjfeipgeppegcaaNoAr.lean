/-
  The areas in which homes lie: the program's and the model's.
-/
import Derived.Test.YtjfeipgeppegcaaNoS1
import Derived.Test.YtjfeipgeppegcaaPgUi
import Derived.Test.YtjfeipgeppegcaaCyMem
namespace Go.Proofs.Ytjfeipgeppegcaa
open Go.RowKit Go.Deep

/-- The numbers of a list of places. -/
def nols (l : List Nat) (j : Nat) : Int := ((l.getD j 0 : Nat) : Int)
theorem cyo_ug {B : Nat} {v : Value} {l : List Nat} {W : World} (h : W.ownsRow B 2 1 v l.length (ugV l)) : ∃ a c, v = .slice a l.length c ∧ CyO 2 B l.length a c (nols l) W := by
  rcases h.2 with h2 | ⟨g, cap, cur, e1, e2, e3, e4, e5, e6, e7⟩
  · exact ⟨none, 0, by rw [h2.1, h2.2], Or.inl ⟨rfl, h2.2, rfl⟩⟩
  · refine ⟨_, _, e1, Or.inr ⟨g, rfl, e2, cap, fun i => cur[i]?.getD undef, by omega, ⟨cur, e3, by simpa using e6, fun i hi => ?_⟩, fun j hj => ?_⟩⟩
    · show cur[i]? = some (cur[i]?.getD undef)
      rw [Array.getElem?_eq_getElem (by omega)]
      rfl
    · have h1 : (cur.toList.take (l.length * 1))[j]? = (ugV l)[j]? := by rw [e7]
      rw [List.getElem?_take, if_pos (by omega), Array.getElem?_toList] at h1
      show cur[j]?.getD undef = _
      rw [h1]
      simp [ugV, nols, hj]
/-- A list of places as an answer. -/
def NlEnd (l : List Nat) (w : World) (e : Ending) (w' : World) : Prop := ∃ a k, e = .returned (.slice a l.length k) ∧ CyO 2 w.heap.size l.length a k (nols l) w'
theorem NlEnd.of {l : List Nat} {w W : World} {v : Value} {B : Nat} (hB : w.heap.size ≤ B) (h : W.ownsRow B 2 1 v l.length (ugV l)) : NlEnd l w (.returned v) W := by
  obtain ⟨a, c, rfl, ho⟩ := cyo_ug h
  exact ⟨a, c, rfl, ho.low hB⟩
theorem NlEnd.nil {w W : World} : NlEnd [] w (.returned (.slice none 0 0)) W := ⟨none, 0, rfl, CyO.nil⟩
namespace No
/-- Which areas are lived in. -/
noncomputable def lv (n : Nat) (H : Nat → Ho) (a : Nat) : Bool := dB (Lived n H a)
theorem lv_zero (H : Nat → Ho) (a : Nat) : lv 0 H a = false := dB_ff (fun ⟨_, hi, _⟩ => absurd hi (Nat.not_lt_zero _))
theorem lived_succ {n : Nat} {H : Nat → Ho} {a : Nat} : Lived (n + 1) H a ↔ (Lived n H a ∨ (H n).area = (a : Int)) := by
  constructor
  · rintro ⟨i, hi, e⟩
    by_cases q : i = n
    · subst q; exact Or.inr e
    · exact Or.inl ⟨i, by omega, e⟩
  · rintro (⟨i, hi, e⟩ | e)
    · exact ⟨i, by omega, e⟩
    · exact ⟨n, by omega, e⟩
theorem lv_yes {n : Nat} {H : Nat → Ho} {a : Nat} (h : (H n).area = (a : Int)) : lv (n + 1) H a = true := dB_tt (lived_succ.2 (Or.inr h))
theorem lv_no {n : Nat} {H : Nat → Ho} {a : Nat} (h : (H n).area ≠ (a : Int)) : lv (n + 1) H a = lv n H a := dB_congr ⟨fun k => (lived_succ.1 k).resolve_right h, fun k => lived_succ.2 (Or.inl k)⟩
theorem lv_put {n m : Nat} {H : Nat → Ho} (h : (H n).area = (m : Int)) : (fun j => if j = m then true else lv n H j) = lv (n + 1) H := by
  funext j
  by_cases e : j = m
  · subst e; simp [lv_yes h]
  · rw [if_neg e, lv_no (by rw [h]; intro q; exact e (by exact_mod_cast q.symm))]
/-- The areas, where the homes are right. -/
noncomputable def areas (n : Nat) (H : Nat → Ho) : List Nat := if dB (Right n H) then Pg.mkL (lv n H) 100 else []
theorem areas_yes {n : Nat} {H : Nat → Ho} (h : Right n H) : areas n H = Pg.mkL (lv n H) 100 := by unfold areas; rw [dB_tt h]; rfl
theorem areas_no {n : Nat} {H : Nat → Ho} (h : ¬ Right n H) : areas n H = [] := by unfold areas; rw [dB_ff h]; rfl
theorem areas_len (n : Nat) (H : Nat → Ho) : (areas n H).length ≤ 100 := by
  by_cases h : Right n H
  · rw [areas_yes h]; exact Pg.mkL_len _ _
  · rw [areas_no h]; simp
end No
/-- What stands while the areas are marked. -/
structure LvS (g : Nat) (u : Nat → Bool) (w W : World) : Prop where
  bo : BoBlk g 100 u W
  lo : w.heap.size ≤ g
  old : Below w.heap.size w W
theorem LvS.put {g : Nat} {u : Nat → Bool} {w W : World} (h : LvS g u w W) (x : Obj) (m : Nat) (b : Bool) : LvS g (fun j => if j = m then b else u j) w ((W.setCell ⟨g, m, none⟩ (.bool b)).alloc x) :=
  ⟨(h.bo.set m b).below (nbel_alloc _ _), h.lo, (h.old.setCell (p := ⟨g, m, none⟩) h.lo _).alloc (by simpa using h.old.size) x⟩
theorem bool_make (P : Program) (w : World) (h : ∀ w : World, (Instr.makeSlice 51 (.int .i64 ((100 : Nat) : Int)) (.int .i64 ((100 : Nat) : Int))).run P w = .ok (.slice (some ⟨w.heap.size, 0, none⟩) 100 100) (w.alloc (.cells (madeCells #[.bool false] 100) 4))) :
    (Instr.makeSlice 51 (.int .i64 100) (.int .i64 100)).run P w = .ok (.slice (some ⟨w.heap.size, 0, none⟩) 100 100) (w.alloc (.cells (madeCells #[.bool false] 100) 4)) := h w
set_option maxRecDepth 100000 in
set_option maxHeartbeats 8000000 in
theorem implAreas_any (la : Option Addr) (n lk : Nat) (B : Nat → No.Ho) (w : World) (h : HosAt la n B w) (hs : n ≤ 1048576) (hk : n ≤ lk) (hnm : HoNames 1048576 n B) :
    Calls Try.prog 12 #[.slice la n lk] w fun e w' => NlEnd (No.areas n B) w e w' ∧ Below w.heap.size w w' := by
  have H := Lib.hid h
  have hmk := fun w => bool_make Try.prog w (run_make_row' (P := Try.prog) 51 4 (.bool false) 1 Try.underlying51 boinfo rfl .i64 .i64 100 (by omega) (by omega))
  have HMK := Lib.hid hmk
  clear h hmk
  go_enter Try.func12, Try.ntmps12
  go_wp2_with fail
  refine (implHomes_any la n lk B _ H.out hs hk hnm).mono ?_
  rintro e w1 ⟨rfl, hb⟩
  have HB1 := Lib.hid hb
  clear hb hnm
  by_cases c : No.Right n B
  case neg =>
    have HE := Lib.hid (No.areas_no c)
    rw [dB_ff c]
    clear c
    go_wp2_with fail
    go_ret
    exact ⟨by rw [HE.out]; exact NlEnd.nil, HB1.out⟩
  have HE := Lib.hid (No.areas_yes c)
  have HR := Lib.hid c
  rw [dB_tt c]
  clear c
  have hmk := HMK.out
  obtain ⟨V, hV⟩ : ∃ V, V = w1.alloc (.cells (madeCells #[.bool false] 100) 4) := ⟨_, rfl⟩
  obtain ⟨g, hg⟩ : ∃ g, g = w1.heap.size := ⟨_, rfl⟩
  have S0 : Hid (LvS g (No.lv 0 B) w V) := by
    show LvS _ _ _ _
    rw [hV, hg]
    refine ⟨?_, HB1.out.size, HB1.out.alloc HB1.out.size _⟩
    have e : No.lv 0 B = fun _ => false := funext (fun j => No.lv_zero B j)
    rw [e]
    exact World.rowIs_made w1 (.bool false) 100 4
  have HV := Lib.hid hV
  have HG := Lib.hid hg
  clear hV hg
  go_wp2_with fail
  rw [← HV.out, ← HG.out]
  clear hmk HV HG HMK
  go_loopw [5, 12] (fun _ iv wr => ∃ (i : Nat), i ≤ n ∧ iv = .int .i64 i ∧ Hid (LvS g (No.lv i B) w wr)) (fun _ iv _ => n - (intOf iv).toNat)
  case atStart => exact ⟨0, Nat.zero_le _, rfl, S0⟩
  case round =>
    obtain ⟨i, hi, rfl, hS⟩ := hrel
    clear S0
    by_cases hlt : i < n
    · have hltz : (i : Int) < (n : Int) := by omega
      obtain ⟨b, e, c0, c1⟩ := (H.out.below hS.out.old).at_ hlt
      subst e
      obtain ⟨⟨_, q0, q1⟩, _⟩ := HR.out.2 i hlt
      obtain ⟨m, hm⟩ : ∃ m : Nat, (B i).area = (m : Int) := ⟨(B i).area.toNat, by omega⟩
      have hm2 : m < 100 := by omega
      have hm3 : (m : Int) < 100 := by omega
      obtain ⟨s, hsx⟩ : ∃ s, s = (B i).name := ⟨_, rfl⟩
      rw [← hsx] at c0
      rw [hm] at c1
      have HS2 : Hid (∀ x, LvS g (No.lv (i + 1) B) w ((wr.setCell ⟨g, m, none⟩ (.bool true)).alloc x)) := fun x => by
        have := hS.out.put x m true
        rw [No.lv_put hm] at this
        exact this
      have y1 : wr.cell? ⟨g, m, none⟩ = some (.bool (No.lv i B m)) := hS.out.bo.at_ hm2
      have z1 : wr.frozen? ⟨g, m, none⟩ = false := hS.out.bo.fr m
      have hgl : g < wr.heap.size := hS.out.bo.lt'
      clear hS hm hsx q0 q1
      go_wp2_with fail
      go_roundw
      case rel => exact ⟨i + 1, by omega, by go_num, HS2.out _⟩
      case measure => simp [intOf]; omega
    · obtain rfl : i = n := by omega
      go_wp2_with fail
      refine (marked_any g 100 100 (No.lv i B) _ hS.out.bo (by omega)).mono ?_
      rintro e w2 ⟨⟨v, rfl, ho⟩, hb⟩
      have HB2 : Hid (Below w.heap.size w w2) := hS.out.old.trans (hb.mono hS.out.old.size)
      have HO : Hid (NlEnd (No.areas i B) w (.returned v) w2) := by
        show NlEnd _ _ _ _
        rw [HE.out]
        exact NlEnd.of hS.out.old.size ho
      clear ho hb hS
      go_wp2_with fail
      go_ret
      exact ⟨HO.out, HB2.out⟩
theorem ug_empty (w : World) : (w.alloc (.cells #[] 2)).ownsRow w.heap.size 2 1 (.slice (some ⟨w.heap.size, 0, none⟩) 0 0) 0 (ugV []) := by
  refine ⟨by simp [ugV], Or.inr ⟨w.heap.size, 0, #[], rfl, by omega, ?_, by omega, by omega, by simp, by simp [ugV]⟩⟩
  exact blk_alloc_new w (.cells #[] 2)
theorem ug_below {B n : Nat} {v : Value} {xs : List Value} {W W' : World} (h : W.ownsRow B 2 1 v n xs) (hb : Below W.heap.size W W') : W'.ownsRow B 2 1 v n xs := by
  refine ⟨h.1, ?_⟩
  rcases h.2 with h2 | ⟨g, cap, cur, e1, e2, e3, e4, e5, e6, e7⟩
  · exact Or.inl h2
  · exact Or.inr ⟨g, cap, cur, e1, e2, (hb.block g (Array.getElem?_eq_some_iff.1 e3).1).trans e3, e4, e5, e6, e7⟩
set_option maxRecDepth 100000 in
set_option maxHeartbeats 8000000 in
theorem specAreas_any (la : Option Addr) (n lk : Nat) (B : Nat → No.Ho) (w : World) (h : HosAt la n B w) (hs : n ≤ 1048576) (hnm : HoNames 1048576 n B) :
    Calls Try.prog 11 #[.slice la n lk] w fun e w' => NlEnd (No.areas n B) w e w' ∧ Below w.heap.size w w' := by
  obtain ⟨i1, hi1, hy0, hy1, hy2⟩ := info_parts uginfo
  have HPI := Lib.hid (And.intro hi1 (And.intro hy0 (And.intro hy1 hy2)))
  obtain ⟨W, hW⟩ : ∃ W, W = w.alloc (.cells #[] 2) := ⟨_, rfl⟩
  have HB : Hid (Below w.heap.size w W) := by show Below _ _ _; rw [hW]; exact nbel_alloc _ _
  have HO : Hid (W.ownsRow w.heap.size 2 1 (.slice (some ⟨w.heap.size, 0, none⟩) 0 0) 0 (ugV [])) := by show World.ownsRow _ _ _ _ _ _ _; rw [hW]; exact ug_empty w
  have H := Lib.hid h
  have HW := Lib.hid hW
  clear h hW hi1 hy0 hy1 hy2
  by_cases hbig : 400 < n
  · have HE := Lib.hid (No.areas_no (show ¬ No.Right n B from fun k => by have := k.1; omega))
    have h1 : (400 : Int) < (n : Int) := by omega
    clear hbig
    go_enter Try.func11, Try.ntmps11
    go_wp2_with fail
    rw [← HW.out]
    go_ret
    exact ⟨by rw [HE.out]; exact NlEnd.of (Nat.le_refl _) HO.out, HB.out⟩
  have h1 : ¬ (400 : Int) < (n : Int) := by omega
  go_enter Try.func11, Try.ntmps11
  go_wp2_with fail
  rw [← HW.out]
  clear HW
  refine (specHomes_any la n lk B _ (H.out.below HB.out) hs hnm).mono ?_
  rintro e w1 ⟨rfl, hb⟩
  replace HB : Hid (Below w.heap.size w w1) := HB.out.trans (hb.mono HB.out.size)
  replace HO := Lib.hid (ug_below HO.out hb)
  clear hb hnm h1 hbig
  by_cases c : No.Right n B
  case neg =>
    have HE := Lib.hid (No.areas_no c)
    rw [dB_ff c]
    clear c
    go_wp2_with fail
    go_ret
    exact ⟨by rw [HE.out]; exact NlEnd.of (Nat.le_refl _) HO.out, HB.out⟩
  have HE := Lib.hid (No.areas_yes c)
  rw [dB_tt c]
  clear c
  go_wp2_with fail
  go_loopw [3, 4, 5, 6] (fun dv iv _ _ wr => ∃ (a : Nat), a ≤ 100 ∧ iv = .int .i64 a ∧ Hid (Below w.heap.size w wr) ∧ Hid (wr.ownsRow w.heap.size 2 1 dv (Pg.mkL (No.lv n B) a).length (ugV (Pg.mkL (No.lv n B) a)))) (fun _ iv _ _ _ => 100 - (intOf iv).toNat)
  case atStart => exact ⟨0, Nat.zero_le _, rfl, HB, HO⟩
  case round =>
    obtain ⟨a, ha, rfl, hB, hO⟩ := hrel
    clear HB HO
    by_cases hlt : a < 100
    · have hltz : (a : Int) < 100 := by omega
      go_wp2_with fail
      go_loopw [5, 6] (fun bv iv wr2 => ∃ (k : Nat), k ≤ n ∧ iv = .int .i64 k ∧ bv = .bool (No.lv k B a) ∧ wr2 = wr) (fun _ iv _ => n - (intOf iv).toNat)
      case atStart => exact ⟨0, Nat.zero_le _, rfl, by rw [No.lv_zero], rfl⟩
      case round =>
        obtain ⟨k, hk, rfl, rfl, rfl⟩ := hrel
        by_cases hlt2 : k < n
        · have hltz2 : (k : Int) < (n : Int) := by omega
          obtain ⟨b, e, c0, c1⟩ := (H.out.below hB.out).at_ hlt2
          subst e
          by_cases q : No.lv k B a = true
          · have HQ : Hid (No.lv (k + 1) B a = true) := dB_tt (No.lived_succ.2 (Or.inl (dB_iff.1 q)))
            rw [q]
            clear q
            go_wp2_with fail
            go_roundw
            case rel => exact ⟨k + 1, by omega, by go_num, by rw [HQ.out], by trivial⟩
            case measure => simp [intOf]; omega
          · have q' : No.lv k B a = false := by simpa using q
            obtain ⟨z, hz⟩ : ∃ z, z = (B k).area := ⟨_, rfl⟩
            rw [← hz] at c1
            rw [q']
            by_cases q2 : z = (a : Int)
            · have HQ : Hid (No.lv (k + 1) B a = true) := No.lv_yes (by rw [← hz]; exact q2)
              have hqq : (z == (a : Int)) = true := by simp [q2]
              clear q q' q2 hz
              go_wp2_with fail
              go_roundw
              case rel => exact ⟨k + 1, by omega, by go_num, by rw [HQ.out], by trivial⟩
              case measure => simp [intOf]; omega
            · have HQ : Hid (No.lv (k + 1) B a = false) := by show _ = _; rw [No.lv_no (by rw [← hz]; exact q2)]; exact q'
              have hqq : (z == (a : Int)) = false := by simp [q2]
              clear q q' q2 hz
              go_wp2_with fail
              go_roundw
              case rel => exact ⟨k + 1, by omega, by go_num, by rw [HQ.out], by trivial⟩
              case measure => simp [intOf]; omega
        · obtain rfl : k = n := by omega
          by_cases q : No.lv k B a = true
          · have HSTEP := Lib.hid (Pg.mkL_yes q)
            have hll := Pg.mkL_len (No.lv k B) a
            have hsz := hB.out.size
            obtain ⟨hi1, hy0, hy1, hy2⟩ := HPI.out
            rw [q]
            clear q
            go_wp2_with (at_builtin; refine wpList_append_own _ rfl _ _ 29 rfl w.heap.size 2 i1 _ 1 8 Try.underlying29 hi1 hy0 hy1 hy2 rfl (by decide) _ _ _ rfl (hO.out.alloc _) ⟨wr.heap.size, 0, none⟩ 1 1 [.int .i64 (a : Nat)] rfl rfl ?d1 ?d2 ?d3 ?d4 ?d5 ?_)
            case d1 =>
              intro q x hq
              match q, hq with
              | 0, hq =>
                simp at hq
                subst hq
                exact (rowN_alloc wr [.int .i64 (a : Nat)] 2).cell (i := 0) (by simp)
            case d2 =>
              intro x hx
              simp at hx
              subst hx
              rfl
            case d3 => unfold maxLen; omega
            case d4 => omega
            case d5 => simp; omega
            intro v5 W5 hown hgrow hnil
            have HB5 : Hid (Below w.heap.size w W5) := (hB.out.alloc hB.out.size _).grown hgrow (by simp; omega) (fun k e => (hO.out.lt k e).1)
            have HO5 : Hid (W5.ownsRow w.heap.size 2 1 v5 (Pg.mkL (No.lv k B) (a + 1)).length (ugV (Pg.mkL (No.lv k B) (a + 1)))) := by
              show World.ownsRow _ _ _ _ _ _ _
              rw [HSTEP.out, List.length_append, ugV_app]
              exact hown
            clear hown hgrow hnil hO hB hi1 hy0 hy1 hy2
            go_wp2_with fail
            go_roundw
            case rel => exact ⟨a + 1, by omega, by go_num, HB5, HO5⟩
            case measure => simp [intOf]; omega
          · have q' : No.lv k B a = false := by simpa using q
            have HSTEP := Lib.hid (Pg.mkL_no q')
            rw [q']
            clear q q'
            go_wp2_with fail
            go_roundw
            case rel => exact ⟨a + 1, by omega, by go_num, hB, by rw [HSTEP.out]; exact hO⟩
            case measure => simp [intOf]; omega
    · obtain rfl : a = 100 := by omega
      go_wp2_with fail
      go_ret
      exact ⟨by rw [HE.out]; exact NlEnd.of (Nat.le_refl _) hO.out, hB.out⟩
end Go.Proofs.Ytjfeipgeppegcaa
