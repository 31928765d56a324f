/-
  The model's greatest flow.
-/
import Derived.Test.YtipmjobhegpdgaaGreatDoorPlF3
namespace Go.Proofs.YtipmjobhegpdgaaGreatDoor
open Go Go.RowKit Go.Deep

theorem finfo_int : (Tryz.prog.info? 3).map (fun i => (i.zero, i.size, i.bytes)) = some (some (.int .i64 0), 1, 8) := by kernel_rfl
abbrev fmkO (T : TypeId) (n : Nat) : Obj := .cells (madeCells #[.int .i64 0] n) T
/-- The copy of the plan and the flow. -/
structure FwS (n : Pl.Plan) (la : Option Addr) (lk : Nat) (fa : Option Addr) (fk : Nat) (wa : Option Addr) (wk : Nat) (g : Nat) (fl : Nat → Int) (w W : World) : Prop where
  old : Below w.heap.size w W
  row : W.rowIs w.heap.size 32 3 (rowN (plL n la lk fa fk wa wk))
  flow : IsBlk 2 g n.rn fl W
  lo : w.heap.size < g
theorem FwS.below {n : Pl.Plan} {la : Option Addr} {lk : Nat} {fa : Option Addr} {fk : Nat} {wa : Option Addr} {wk g : Nat} {fl : Nat → Int} {w W W' : World} (h : FwS n la lk fa fk wa wk g fl w W) (hb : Below W.heap.size W W') : FwS n la lk fa fk wa wk g fl w W' :=
  ⟨h.old.trans (hb.mono h.old.size), nrow_below h.row hb, h.flow.below hb, h.lo⟩
theorem FwS.grown {n : Pl.Plan} {la : Option Addr} {lk : Nat} {fa : Option Addr} {fk : Nat} {wa : Option Addr} {wk g : Nat} {fl : Nat → Int} {w W W' : World} {row : Option Nat} (h : FwS n la lk fa fk wa wk g fl w W) (hg : W.grownBy W' row) (hr : ∀ k, row = some k → g < k) : FwS n la lk fa fk wa wk g fl w W' := by
  have h1 := h.lo
  exact ⟨h.old.grown hg h.old.size (fun k e => by have := hr k e; omega), h.row.of_block (hg.block _ h.row.lt (fun e => by have := hr _ e.symm; omega)), h.flow.block (hg.block _ h.flow.lt (fun e => by have := hr _ e.symm; omega)), h.lo⟩
theorem grown_set (W : World) (p : Addr) (v : Value) : W.grownBy (W.setCell p v) (some p.block) := ⟨rfl, rfl, rfl, by simp [World.setCell], fun k _ hne => blk_setCell_other _ _ _ _ (fun e => hne (by rw [e]))⟩
theorem FwS.set {n : Pl.Plan} {la : Option Addr} {lk : Nat} {fa : Option Addr} {fk : Nat} {wa : Option Addr} {wk g : Nat} {fl : Nat → Int} {w W : World} (h : FwS n la lk fa fk wa wk g fl w W) (i : Nat) (x : Int) : FwS n la lk fa fk wa wk g (updI fl i x) w (W.setCell ⟨g, i, none⟩ (.int .i64 x)) := by
  have h1 := h.lo
  exact ⟨h.old.grown (grown_set W ⟨g, i, none⟩ _) h.old.size (fun k e => by cases e; exact Nat.le_of_lt h1), nrow_set h.row (p := ⟨g, i, none⟩) (Nat.ne_of_lt h1) _, h.flow.set i x, h1⟩
/-- What stands in a search. -/
structure SrS (n : Pl.Plan) (la : Option Addr) (lk : Nat) (fa : Option Addr) (fk : Nat) (wa : Option Addr) (wk : Nat) (g : Nat) (fl : Nat → Int) (gc : Nat) (cm : Nat → Int) (qv : Value) (q : List Nat) (w W : World) : Prop where
  base : FwS n la lk fa fk wa wk g fl w W
  come : IsBlk 3 gc n.hn cm W
  que : W.ownsRow (gc + 1) 2 1 qv q.length (numsV q)
  lo : g < gc
theorem SrS.below {n : Pl.Plan} {la : Option Addr} {lk : Nat} {fa : Option Addr} {fk : Nat} {wa : Option Addr} {wk g : Nat} {fl : Nat → Int} {gc : Nat} {cm : Nat → Int} {qv : Value} {q : List Nat} {w W W' : World} (h : SrS n la lk fa fk wa wk g fl gc cm qv q w W) (hb : Below W.heap.size W W') : SrS n la lk fa fk wa wk g fl gc cm qv q w W' :=
  ⟨h.base.below hb, h.come.below hb, h.que.kept (row := none) ⟨hb.os, hb.tape, hb.output, hb.size, fun q hq _ => hb.block q hq⟩ (by cases qv.ownBlock <;> simp), h.lo⟩
theorem SrS.set {n : Pl.Plan} {la : Option Addr} {lk : Nat} {fa : Option Addr} {fk : Nat} {wa : Option Addr} {wk g : Nat} {fl : Nat → Int} {gc : Nat} {cm : Nat → Int} {qv : Value} {q : List Nat} {w W : World} (h : SrS n la lk fa fk wa wk g fl gc cm qv q w W) (i : Nat) (x : Int) : SrS n la lk fa fk wa wk g fl gc (updI cm i x) qv q w (W.setCell ⟨gc, i, none⟩ (.int .i64 x)) :=
  ⟨h.base.grown (grown_set W ⟨gc, i, none⟩ _) (fun k e => by cases e; exact h.lo), h.come.set i x, h.que.kept (grown_set W ⟨gc, i, none⟩ _) (Or.inr (fun e => by have := (h.que.lt gc e).1; omega)), h.lo⟩
/-- Behind an append to the list. -/
theorem SrS.push {n : Pl.Plan} {la : Option Addr} {lk : Nat} {fa : Option Addr} {fk : Nat} {wa : Option Addr} {wk g : Nat} {fl : Nat → Int} {gc : Nat} {cm : Nat → Int} {qv : Value} {q : List Nat} {w W W' : World} {o : Obj} (h : SrS n la lk fa fk wa wk g fl gc cm qv q w W) {v : Value} {x : Nat} (hg : (W.alloc o).grownBy W' qv.ownBlock) (ho : W'.ownsRow (gc + 1) 2 1 v (q.length + 1) (numsV q ++ [.int .i64 (x : Nat)])) : SrS n la lk fa fk wa wk g fl gc cm v (q ++ [x]) w W' := by
  have h1 := h.below (nbel_alloc W o)
  have hlt := fun k e => (h.que.lt k e).1
  have hl := h.lo
  refine ⟨h1.base.grown hg (fun k e => by have := hlt k e; omega), h1.come.block (hg.block _ h1.come.lt (fun e => by have := hlt _ e.symm; omega)), ?_, h.lo⟩
  rw [List.length_append]
  have e1 : numsV (q ++ [x]) = numsV q ++ [.int .i64 (x : Nat)] := by simp [numsV]
  rw [e1]
  exact ho
theorem SrS.setF {n : Pl.Plan} {la : Option Addr} {lk : Nat} {fa : Option Addr} {fk : Nat} {wa : Option Addr} {wk g : Nat} {fl : Nat → Int} {gc : Nat} {cm : Nat → Int} {qv : Value} {q : List Nat} {w W : World} (h : SrS n la lk fa fk wa wk g fl gc cm qv q w W) (i : Nat) (x : Int) : SrS n la lk fa fk wa wk g (updI fl i x) gc cm qv q w (W.setCell ⟨g, i, none⟩ (.int .i64 x)) := by
  have hl := h.lo
  exact ⟨h.base.set i x, h.come.block (blk_setCell_other _ _ _ _ (by show gc ≠ g; omega)), h.que.kept (grown_set W ⟨g, i, none⟩ _) (Or.inr (fun e => by have := (h.que.lt g e).1; omega)), h.lo⟩
/-- One of the list, read. -/
theorem SrS.at_ {n : Pl.Plan} {la : Option Addr} {lk : Nat} {fa : Option Addr} {fk : Nat} {wa : Option Addr} {wk g : Nat} {fl : Nat → Int} {gc : Nat} {cm : Nat → Int} {ad : Option Addr} {c : Nat} {q : List Nat} {w W : World} (h : SrS n la lk fa fk wa wk g fl gc cm (.slice ad q.length c) q w W) {d u : Nat} (hu : q[d]? = some u) : ∃ b, ad = some ⟨b, 0, none⟩ ∧ W.cell? ⟨b, d, none⟩ = some (.int .i64 (u : Nat)) := by
  obtain ⟨a, c', e, hat⟩ := own_at h.que
  cases e
  have hd : d < q.length := by
    rcases Nat.lt_or_ge d q.length with x | x
    · exact x
    · rw [List.getElem?_eq_none x] at hu; cases hu
  obtain ⟨b, e, cl⟩ := hat.at1 hd
  refine ⟨b, e, ?_⟩
  rw [cl, List.getD_eq_getElem?_getD, hu]
  rfl
/-- Over a row that one more can go over, to its other end. -/
theorem Fl.oth_room {n : Pl.Plan} (hr : Pl.Right n) {fl : Nat → Int} {i u b : Nat} (hi : i < n.rn) (h : Fl.roomR n fl i u b) : Pl.oth n i (u : Int) = (b : Int) ∧ 0 < Fl.left n fl i (u : Int) := by
  have h1 := hr.from_eq hi
  have h2 := hr.to_eq hi
  have h3 := hr.ne hi
  unfold Pl.oth Fl.left
  rw [h1, h2]
  rcases h with ⟨a1, a2, a3⟩ | ⟨a1, a2, a3⟩
  · rw [if_pos (by omega), if_pos (by omega)]; omega
  · rw [if_neg (by omega), if_pos (by omega), if_neg (by omega)]; omega
theorem Fl.room_oth {n : Pl.Plan} (hr : Pl.Right n) {fl : Nat → Int} {i u b : Nat} (hi : i < n.rn) (h1 : Pl.oth n i (u : Int) = (b : Int)) (h2 : 0 < Fl.left n fl i (u : Int)) : Fl.roomR n fl i u b := by
  have e1 := hr.from_eq hi
  have e2 := hr.to_eq hi
  unfold Pl.oth at h1
  unfold Fl.left at h2
  rw [e1, e2] at h1
  rw [e1] at h2
  unfold Fl.roomR
  by_cases c1 : (n.from_ i : Int) = (u : Int)
  · rw [if_pos c1] at h1 h2
    left; omega
  · rw [if_neg c1] at h1 h2
    by_cases c2 : (n.to_ i : Int) = (u : Int)
    · rw [if_pos c2] at h1
      right; omega
    · rw [if_neg c2] at h1; omega
set_option maxRecDepth 100000 in
set_option maxHeartbeats 4000000 in
theorem sflow_any (n : Pl.Plan) (la : Option Addr) (lk : Nat) (fa : Option Addr) (fk : Nat) (wa : Option Addr) (wk : Nat) (t : Nat) (w : World) (h : PlAt n la fa wa w) (hr : Pl.Right n) (ht : t < n.hn) (hd : ¬ Pl.Wet n (Pl.Good n) t) :
    Calls Tryz.prog 31 #[plV n la lk fa fk wa wk, .int .i64 (t : Nat)] w fun e w' => (∃ g fl k, ∃ A : Nat → Bool, e = .returned (.slice (some ⟨g, 0, none⟩) n.rn n.rn) ∧ w.heap.size ≤ g ∧ IsBlk 2 g n.rn fl w' ∧ Fl.RF n t fl k ∧ k ≤ 100 ∧ (∀ v, v < n.hn → Fl.isSrc n v → A v = true) ∧ (∀ a b, a < n.hn → b < n.hn → Fl.RoomP n fl a b → A a = true → A b = true) ∧ A t = false) ∧ Below w.heap.size w w' := by
  obtain ⟨W, hW⟩ : ∃ W, W = w.alloc (.cells #[.slice la n.rn lk, .slice fa n.sn fk, .slice wa n.hn wk] 32) := ⟨_, rfl⟩
  have hrn := hr.r
  have hhn := hr.h2
  have hsn := hr.sn40
  have hmk := run_make_row' (P := Tryz.prog) 23 2 (.int .i64 0) 8 Tryz.underlying23 yinfo_i64 rfl .i64 .i64 n.rn (by omega) (by omega)
  have hmk2 := Lib.hid (run_make_row' (P := Tryz.prog) 88 3 (.int .i64 0) 8 Tryz.underlying88 finfo_int rfl .i64 .i64 n.hn (by omega) (by omega))
  obtain ⟨g, hg⟩ : ∃ g, g = w.heap.size + 1 := ⟨_, rfl⟩
  have HST : Hid (FwS n la lk fa fk wa wk g (fun _ => 0) w (W.alloc (fmkO 2 n.rn))) := by
    have hs : W.heap.size = w.heap.size + 1 := by rw [hW]; simp
    have hb : Below w.heap.size w W := by rw [hW]; exact nbel_alloc _ _
    refine ⟨hb.trans ((nbel_alloc W _).mono hb.size), ?_, ?_, by omega⟩
    · refine nrow_below ?_ (nbel_alloc _ _)
      rw [hW]; exact rowN_alloc w _ _
    · rw [hg, ← hs]; exact ⟨n.rn, _, Nat.le_refl _, World.rowIs_made W (.int .i64 0) n.rn 2, fun _ _ => rfl⟩
  have H := Lib.hid h
  have HRT := Lib.hid hr
  have HD := Lib.hid hd
  have HW := Lib.hid hW
  have htz : (t : Int) < (n.hn : Int) := by omega
  have HNS : Hid (¬ Fl.isSrc n t) := fun ⟨i, hi, e⟩ => hd (by have := Pl.Wet.src (p := n) (sh := Pl.Good n) i hi; rw [e] at this; simpa using this)
  obtain ⟨i1, hi1, hy0, hy1, hy2⟩ := info_parts yinfo_i64
  have HPI := Lib.hid (And.intro hi1 (And.intro hy0 (And.intro hy1 hy2)))
  clear hW h hr hd hi1 hy0 hy1 hy2
  go_enter Tryz.func31, Tryz.ntmps31
  go_wp2_with fail
  rw [← HW.out]
  clear hmk
  rw [← hg]
  clear hg
  go_loopw [6, 7, 8, 9, 10, 11, 12, 13, 14] (fun kv _ _ _ _ _ _ _ _ wr => ∃ (k : Nat) (fl : Nat → Int), k ≤ 200 ∧ kv = .int .i64 k ∧ Hid (FwS n la lk fa fk wa wk g fl w wr) ∧ Hid (Fl.RF n t fl k)) (fun kv _ _ _ _ _ _ _ _ _ => 200 - (intOf kv).toNat)
  case atStart => exact ⟨0, _, Nat.zero_le _, rfl, HST, Fl.RF.zero n t⟩
  case round =>
    obtain ⟨k, fl, hk, rfl, hS, hF⟩ := hrel
    clear HST HW
    have hkb := hF.out.bound HRT.out ht HD.out
    have hkz : (k : Int) < 200 := by omega
    obtain ⟨⟨p0, p1, p2⟩, _⟩ := rowN3 hS.out.row
    have hmk2' := hmk2.out
    obtain ⟨gc, hgc⟩ : ∃ gc, gc = wr.heap.size := ⟨_, rfl⟩
    obtain ⟨W1, hW1⟩ : ∃ W1, W1 = (wr.alloc (fmkO 3 n.hn)).alloc (.cells #[] 2) := ⟨_, rfl⟩
    have HS1 : Hid (SrS n la lk fa fk wa wk g fl gc (fun _ => 0) (.slice (some ⟨gc + 1, 0, none⟩) 0 0) [] w W1) := by
      have hl := hS.out.flow.lt
      have b1 : Below wr.heap.size wr (wr.alloc (fmkO 3 n.hn)) := nbel_alloc _ _
      have b2 : Below (wr.alloc (fmkO 3 n.hn)).heap.size (wr.alloc (fmkO 3 n.hn)) W1 := by rw [hW1]; exact nbel_alloc _ _
      refine ⟨(hS.out.below b1).below b2, IsBlk.below ⟨n.hn, _, Nat.le_refl _, by rw [hgc]; exact World.rowIs_made wr (.int .i64 0) n.hn 3, fun _ _ => rfl⟩ b2, ?_, by omega⟩
      rw [hW1, hgc]
      have := World.ownsRow_made (base := wr.heap.size + 1) (e := 2) (size := 1) (wr.alloc (fmkO 3 n.hn)) #[] 0 (by simp) (Nat.zero_le _) rfl
      simpa [numsV] using this
    have HW1 := Lib.hid hW1
    have HF0 := Lib.hid hF.out
    clear hW1 hS hF
    go_wp2_with fail
    rw [← HW1.out]
    rw [← hgc]
    clear hmk2' HW1 hgc p0 p1 p2
    go_loopw [8, 9] (fun qv iv wr => ∃ (i : Nat) (cm : Nat → Int) (q : List Nat) (ad : Option Addr) (c : Nat), i ≤ n.sn ∧ iv = .int .i64 i ∧ qv = .slice ad q.length c ∧ Hid (SrS n la lk fa fk wa wk g fl gc cm (.slice ad q.length c) q w wr) ∧ Hid (Fl.Ss n cm q i)) (fun _ iv _ => n.sn - (intOf iv).toNat)
    case atStart => exact ⟨0, _, [], _, _, Nat.zero_le _, rfl, rfl, HS1, Fl.Ss.nil n⟩
    case round =>
      obtain ⟨i, cm, q, ad, c, hi, rfl, rfl, hS, hQ⟩ := hrel
      clear HS1
      obtain ⟨⟨p0, p1, p2⟩, _⟩ := rowN3 hS.out.base.row
      by_cases hlt : i < n.sn
      · have hltz : (i : Int) < (n.sn : Int) := by omega
        obtain ⟨b2, e, cl⟩ := (H.out.below hS.out.base.old).f.at1 hlt
        subst e
        have h1 := (HRT.out.s i hlt).1
        have HQ2 := Lib.hid (hQ.out.put HRT.out hlt)
        obtain ⟨r, hr⟩ : ∃ r : Nat, n.S i = (r : Int) := ⟨(n.S i).toNat, by omega⟩
        have hrt : (n.S i).toNat = r := by omega
        rw [hrt] at HQ2
        have hrl : r < n.hn := by omega
        have hrlz : (r : Int) < (n.hn : Int) := by omega
        rw [hr] at cl
        have cu := hS.out.come.cell hrl
        have zu := hS.out.come.frozen r
        have zg := hS.out.come.lt
        have hql := hQ.out.len
        have hb2 : b2 < w.heap.size := World.block_lt_of_cell? _ _ ((H.out.f.at1 hlt).elim (fun b x => by obtain ⟨e, c⟩ := x; cases e; exact c))
        have hlo1 := hS.out.base.lo
        have hlo2 := hS.out.lo
        obtain ⟨W2, hW2⟩ : ∃ W2, W2 = wr.setCell ⟨gc, r, none⟩ (.int .i64 (-1)) := ⟨_, rfl⟩
        have HS2 : Hid (SrS n la lk (some ⟨b2, 0, none⟩) fk wa wk g fl gc (updI cm r (-1)) (.slice ad q.length c) q w W2) := by rw [hW2]; exact hS.out.set r (-1)
        have HW2 := Lib.hid hW2
        have hs2 : W2.heap.size = wr.heap.size := by rw [hW2]; simp
        clear h1 hr hrt hW2
        obtain ⟨hi1, hy0, hy1, hy2⟩ := HPI.out
        go_wp2_with (at_builtin; rw [← HW2.out]; refine wpList_append_own_at _ rfl _ _ 23 rfl (gc + 1) 2 i1 _ 1 8 Tryz.underlying23 hi1 hy0 hy1 hy2 rfl (by decide) _ _ _ rfl (HS2.out.que.alloc _) ⟨wr.heap.size, 0, none⟩ 1 1 [.int .i64 (r : Nat)] rfl rfl ?d1 ?d2 ?d3 ?d4 ?d5 ?_)
        case d1 =>
          intro q x hq
          match q, hq with
          | 0, hq =>
            simp at hq
            subst hq
            rw [← hs2]
            exact (rowN_alloc W2 [.int .i64 (r : Nat)] 2).cell (i := 0) (by simp)
        case d2 =>
          intro x hx
          simp at hx
          subst hx
          rfl
        case d3 => unfold maxLen; omega
        case d4 => omega
        case d5 => simp; omega
        intro v5 W5 hown hgrow hnil hat
        have HS5 := Lib.hid (HS2.out.push hgrow hown)
        obtain ⟨ad5, c5, rfl, hat5⟩ := own_at HS5.out.que
        clear hown hgrow hnil hat hat5 hS hQ p0 p1 p2 cl cu zu zg HS2 HW2
        go_wp2_with fail
        go_roundw
        case rel => exact ⟨i + 1, _, _, ad5, c5, by omega, by go_num, rfl, HS5, HQ2⟩
        case measure => simp [intOf]; omega
      obtain rfl : i = n.sn := by omega
      have HSF := Lib.hid (hQ.out.sf (fl := fl))
      clear hQ hlt hi
      go_wp2_with fail
      clear p0 p1 p2
      go_loopw [8, 10, 11, 12] (fun qv dv _ _ wr => ∃ (d : Nat) (cm : Nat → Int) (q : List Nat) (ad : Option Addr) (c : Nat) (rk : Nat → Nat) (T : Nat), d ≤ 41 ∧ dv = .int .i64 d ∧ qv = .slice ad q.length c ∧ Hid (SrS n la lk fa fk wa wk g fl gc cm (.slice ad q.length c) q w wr) ∧ Hid (Fl.Sf n fl cm q rk T d 0)) (fun _ dv _ _ _ => 41 - (intOf dv).toNat)
      case atStart => exact ⟨0, cm, q, ad, c, _, _, Nat.zero_le _, rfl, rfl, hS, HSF⟩
      case round =>
        obtain ⟨d, cm, q, ad, c, rk, T, hd, rfl, rfl, hS, hSf⟩ := hrel
        clear HSF
        have ct := hS.out.come.cell ht
        have hql := hSf.out.short
        by_cases hdl : d < q.length
        · have hdlz : (d : Int) < (q.length : Int) := by omega
          by_cases hct : cm t = 0
          · have ect : (cm t == 0) = true := by simp [hct]
            obtain ⟨u, hu⟩ : ∃ u, q[d]? = some u := ⟨q[d], List.getElem?_eq_getElem hdl⟩
            have HU := Lib.hid hu
            have HDL : Hid (d < q.length) := hdl
            clear hct hu hdl hdlz
            go_wp2_with fail
            clear ct ect
            go_loopw [8, 11, 12] (fun qv iv _ wr => ∃ (i : Nat) (cm : Nat → Int) (q : List Nat) (ad : Option Addr) (c : Nat) (rk : Nat → Nat) (T : Nat), i ≤ n.rn ∧ iv = .int .i64 i ∧ qv = .slice ad q.length c ∧ Hid (SrS n la lk fa fk wa wk g fl gc cm (.slice ad q.length c) q w wr) ∧ Hid (Fl.Sf n fl cm q rk T d i) ∧ Hid (q[d]? = some u) ∧ Hid (d < q.length)) (fun _ iv _ _ => n.rn - (intOf iv).toNat)
            case atStart => exact ⟨0, cm, q, ad, c, rk, T, Nat.zero_le _, rfl, rfl, hS, hSf, HU, HDL⟩
            case round =>
              clear hS hSf HU HDL hql hd
              obtain ⟨i, cm, q, ad, c, rk, T, hi, rfl, rfl, hS, hSf, hU, hDL⟩ := hrel
              obtain ⟨⟨p0, p1, p2⟩, _⟩ := rowN3 hS.out.base.row
              by_cases hlt : i < n.rn
              · have hltz : (i : Int) < (n.rn : Int) := by omega
                obtain ⟨b, e, c0, c1, c2⟩ := (H.out.below hS.out.base.old).l.at3 hlt
                subst e
                obtain ⟨qb, e, cq⟩ := hS.out.at_ hU.out
                subst e
                have hdz : (d : Int) < (q.length : Int) := by have := hDL.out; omega
                have HU2 := hU
                go_wp2_with fail
                refine wp_region_held_drew (S := fun V => Below wr.heap.size wr V) (by kernel_rfl) (Below.refl _ _).drew (fun hHeld => ?_)
                obtain ⟨Z, hZ⟩ : ∃ Z, Z = wr.drew := ⟨_, rfl⟩
                rw [← hZ] at hHeld ⊢
                clear hZ
                refine take_do (i := 0) (v := (.pointer (some ⟨w.heap.size, 0, none⟩))) rfl (by kernel_rfl) (by kernel_rfl) (by kernel_rfl) (fun _ _ _ h => h) (by rfl) ?_ (by assumption) ?_
                · intro w hSw
                  skip
                  go_simp
                simp only [Act.put, List.setIfInBounds_toArray, List.set_cons_zero, List.set_cons_succ]
                refine take_do (i := 1) (v := (.slice (some ⟨b, 0, none⟩) n.rn lk)) rfl (by kernel_rfl) (by kernel_rfl) (by kernel_rfl) (fun _ _ _ h => h) (by rfl) ?_ (by assumption) ?_
                · intro w hSw
                  have hc_p0 := (hSw.cell (World.block_lt_of_cell? _ _ p0)).trans p0
                  go_simp
                simp only [Act.put, List.setIfInBounds_toArray, List.set_cons_zero, List.set_cons_succ]
                refine take_do (i := 2) (v := (.int .i64 (i : Nat))) rfl (by kernel_rfl) (by kernel_rfl) (by kernel_rfl) (fun _ _ _ h => h) (by rfl) ?_ (by assumption) ?_
                · intro w hSw
                  skip
                  go_simp
                simp only [Act.put, List.setIfInBounds_toArray, List.set_cons_zero, List.set_cons_succ]
                refine take_do (i := 3) (v := (.pointer (some ⟨b, i * 3, none⟩))) rfl (by kernel_rfl) (by kernel_rfl) (by kernel_rfl) (fun _ _ _ h => h) (by rfl) ?_ (by assumption) ?_
                · intro w hSw
                  skip
                  go_simp
                simp only [Act.put, List.setIfInBounds_toArray, List.set_cons_zero, List.set_cons_succ]
                refine take_do (i := 4) (v := (.agg #[.int .i64 (n.R (i * 3)), .int .i64 (n.R (i * 3 + 1)), .int .i64 (n.R (i * 3 + 2))])) rfl (by kernel_rfl) (by kernel_rfl) (by kernel_rfl) (fun _ _ _ h => h) (by rfl) ?_ (by assumption) ?_
                · intro w hSw
                  have hc_c0 := (hSw.cell (World.block_lt_of_cell? _ _ c0)).trans c0
                  have hc_c1 := (hSw.cell (World.block_lt_of_cell? _ _ c1)).trans c1
                  have hc_c2 := (hSw.cell (World.block_lt_of_cell? _ _ c2)).trans c2
                  go_simp
                simp only [Act.put, List.setIfInBounds_toArray, List.set_cons_zero, List.set_cons_succ]
                refine take_do (i := 5) (v := (.slice (some ⟨qb, 0, none⟩) q.length c)) rfl (by kernel_rfl) (by kernel_rfl) (by kernel_rfl) (fun _ _ _ h => h) (by rfl) ?_ (by assumption) ?_
                · intro w hSw
                  skip
                  go_simp
                simp only [Act.put, List.setIfInBounds_toArray, List.set_cons_zero, List.set_cons_succ]
                refine take_do (i := 6) (v := (.int .i64 (d : Nat))) rfl (by kernel_rfl) (by kernel_rfl) (by kernel_rfl) (fun _ _ _ h => h) (by rfl) ?_ (by assumption) ?_
                · intro w hSw
                  skip
                  go_simp
                simp only [Act.put, List.setIfInBounds_toArray, List.set_cons_zero, List.set_cons_succ]
                refine take_do (i := 7) (v := (.pointer (some ⟨qb, d, none⟩))) rfl (by kernel_rfl) (by kernel_rfl) (by kernel_rfl) (fun _ _ _ h => h) (by rfl) ?_ (by assumption) ?_
                · intro w hSw
                  skip
                  go_simp
                simp only [Act.put, List.setIfInBounds_toArray, List.set_cons_zero, List.set_cons_succ]
                refine take_do (i := 8) (v := (.int .i64 (u : Nat))) rfl (by kernel_rfl) (by kernel_rfl) (by kernel_rfl) (fun _ _ _ h => h) (by rfl) ?_ (by assumption) ?_
                · intro w hSw
                  have hc_cq := (hSw.cell (World.block_lt_of_cell? _ _ cq)).trans cq
                  go_simp
                simp only [Act.put, List.setIfInBounds_toArray, List.set_cons_zero, List.set_cons_succ]
                refine take_call (i := 9) rfl (by kernel_rfl) (fun K2 hK => ?_)
                go_simp
                refine (sother_any n i (u : Int) _).mono ?_
                rintro e Z1 ⟨rfl, hb⟩
                go_wp2_with fail
                refine hK.out _ _ (hHeld.trans (hb.mono hHeld.size)) (fun hHeld2 => ?_)
                clear hK hHeld hb
                have hHeld := hHeld2
                clear hHeld2
                refine take_do (i := 10) (v := (.int .i64 (Pl.oth n i (u : Int)))) rfl (by kernel_rfl) (by kernel_rfl) (by kernel_rfl) (fun _ _ _ h => h) (by rfl) ?_ (by assumption) ?_
                · intro w hSw
                  skip
                  go_simp
                simp only [Act.put, List.setIfInBounds_toArray, List.set_cons_zero, List.set_cons_succ]
                refine wpAnyH_done (by kernel_rfl) ?_ _
                have HBZ := Lib.hid hHeld
                clear hHeld
                have HS2 := Lib.hid (hS.out.below HBZ.out)
                clear hS HBZ c0 c1 c2 cq p0 p1 p2
                obtain ⟨o, ho⟩ : ∃ o, o = Pl.oth n i (u : Int) := ⟨_, rfl⟩
                have HO := Lib.hid ho
                have hge := Pl.oth_ge HRT.out hlt (u : Int)
                rw [← ho] at hge ⊢
                clear ho
                by_cases co : 0 ≤ o
                case neg =>
                  have HSN := Lib.hid (hSf.out.row hU.out (fun b hb hR => by have := (Fl.oth_room HRT.out hlt hR).1; have := HO.out; omega))
                  have dco : decide (0 ≤ o) = false := by simp [co]
                  go_wp2_with fail
                  go_quiet (fail)
                  go_wp2_with fail
                  go_roundw
                  case rel => exact ⟨i + 1, cm, q, _, c, rk, T, by omega, by go_num, rfl, HS2.out.below (ndrewN (Below.refl _ _) _), HSN, hU, hDL⟩
                  case measure => simp [intOf]; omega
                obtain ⟨v, rfl⟩ : ∃ v : Nat, o = (v : Int) := ⟨o.toNat, by omega⟩
                have hv : v < n.hn := by omega
                have hvz : (v : Int) < (n.hn : Int) := by omega
                clear hge co
                have cv := HS2.out.come.cell hv
                by_cases cc : cm v = 0
                case neg =>
                  have ecv : (cm v == 0) = false := by simp [cc]
                  have HSN := Lib.hid (hSf.out.row hU.out (fun b hb hR => by
                    have h1 := (Fl.oth_room HRT.out hlt hR).1
                    have h2 := HO.out
                    have e : b = v := by omega
                    rw [e]; exact cc))
                  clear cc
                  go_wp2_with fail
                  go_quiet (fail)
                  go_wp2_with fail
                  go_roundw
                  case rel => exact ⟨i + 1, cm, q, _, c, rk, T, by omega, by go_num, rfl, HS2.out.below (ndrewN (Below.refl _ _) _), HSN, hU, hDL⟩
                  case measure => simp [intOf]; omega
                have HCV := Lib.hid cc
                rw [cc] at cv
                clear cc
                obtain ⟨⟨p0, p1, p2⟩, _⟩ := rowN3 HS2.out.base.row
                obtain ⟨qb2, e, cq⟩ := HS2.out.at_ hU.out
                cases e
                have hfb := HF0.out.low i hlt
                go_wp2_with fail
                refine wp_region_held_drew (S := fun V => Below Z1.heap.size Z1 V) (by kernel_rfl) (Below.refl _ _).drew (fun hHeld => ?_)
                obtain ⟨Z, hZ⟩ : ∃ Z, Z = Z1.drew := ⟨_, rfl⟩
                rw [← hZ] at hHeld ⊢
                clear hZ
                refine take_do (i := 0) (v := (.int .i64 (v : Nat))) rfl (by kernel_rfl) (by kernel_rfl) (by kernel_rfl) (fun _ _ _ h => h) (by rfl) ?_ (by assumption) ?_
                · intro w hSw
                  skip
                  go_simp
                simp only [Act.put, List.setIfInBounds_toArray, List.set_cons_zero, List.set_cons_succ]
                refine take_do (i := 1) (v := (.bool true)) rfl (by kernel_rfl) (by kernel_rfl) (by kernel_rfl) (fun _ _ _ h => h) (by rfl) ?_ (by assumption) ?_
                · intro w hSw
                  skip
                  go_simp
                simp only [Act.put, List.setIfInBounds_toArray, List.set_cons_zero, List.set_cons_succ]
                refine take_do (i := 2) (v := (.bool true)) rfl (by kernel_rfl) (by kernel_rfl) (by kernel_rfl) (fun _ _ _ h => h) (by rfl) ?_ (by assumption) ?_
                · intro w hSw
                  skip
                  go_simp
                simp only [Act.put, List.setIfInBounds_toArray, List.set_cons_zero, List.set_cons_succ]
                refine take_do (i := 3) (v := (.slice (some ⟨gc, 0, none⟩) n.hn n.hn)) rfl (by kernel_rfl) (by kernel_rfl) (by kernel_rfl) (fun _ _ _ h => h) (by rfl) ?_ (by assumption) ?_
                · intro w hSw
                  skip
                  go_simp
                simp only [Act.put, List.setIfInBounds_toArray, List.set_cons_zero, List.set_cons_succ]
                refine take_do (i := 4) (v := (.int .i64 (v : Nat))) rfl (by kernel_rfl) (by kernel_rfl) (by kernel_rfl) (fun _ _ _ h => h) (by rfl) ?_ (by assumption) ?_
                · intro w hSw
                  skip
                  go_simp
                simp only [Act.put, List.setIfInBounds_toArray, List.set_cons_zero, List.set_cons_succ]
                refine take_do (i := 5) (v := (.pointer (some ⟨gc, v, none⟩))) rfl (by kernel_rfl) (by kernel_rfl) (by kernel_rfl) (fun _ _ _ h => h) (by rfl) ?_ (by assumption) ?_
                · intro w hSw
                  skip
                  go_simp
                simp only [Act.put, List.setIfInBounds_toArray, List.set_cons_zero, List.set_cons_succ]
                refine take_do (i := 6) (v := (.int .i64 0)) rfl (by kernel_rfl) (by kernel_rfl) (by kernel_rfl) (fun _ _ _ h => h) (by rfl) ?_ (by assumption) ?_
                · intro w hSw
                  have hc_cv := (hSw.cell (World.block_lt_of_cell? _ _ cv)).trans cv
                  go_simp
                simp only [Act.put, List.setIfInBounds_toArray, List.set_cons_zero, List.set_cons_succ]
                refine take_do (i := 7) (v := (.bool true)) rfl (by kernel_rfl) (by kernel_rfl) (by kernel_rfl) (fun _ _ _ h => h) (by rfl) ?_ (by assumption) ?_
                · intro w hSw
                  skip
                  go_simp
                simp only [Act.put, List.setIfInBounds_toArray, List.set_cons_zero, List.set_cons_succ]
                refine take_do (i := 8) (v := (.bool true)) rfl (by kernel_rfl) (by kernel_rfl) (by kernel_rfl) (fun _ _ _ h => h) (by rfl) ?_ (by assumption) ?_
                · intro w hSw
                  skip
                  go_simp
                simp only [Act.put, List.setIfInBounds_toArray, List.set_cons_zero, List.set_cons_succ]
                refine take_do (i := 9) (v := (.bool true)) rfl (by kernel_rfl) (by kernel_rfl) (by kernel_rfl) (fun _ _ _ h => h) (by rfl) ?_ (by assumption) ?_
                · intro w hSw
                  skip
                  go_simp
                simp only [Act.put, List.setIfInBounds_toArray, List.set_cons_zero, List.set_cons_succ]
                refine take_do (i := 10) (v := (plV n (some ⟨b, 0, none⟩) lk fa fk wa wk)) rfl (by kernel_rfl) (by kernel_rfl) (by kernel_rfl) (fun _ _ _ h => h) (by rfl) ?_ (by assumption) ?_
                · intro w hSw
                  have hc_p0 := (hSw.cell (World.block_lt_of_cell? _ _ p0)).trans p0
                  have hc_p1 := (hSw.cell (World.block_lt_of_cell? _ _ p1)).trans p1
                  have hc_p2 := (hSw.cell (World.block_lt_of_cell? _ _ p2)).trans p2
                  go_simp
                simp only [Act.put, List.setIfInBounds_toArray, List.set_cons_zero, List.set_cons_succ]
                refine take_do (i := 11) (v := (.slice (some ⟨g, 0, none⟩) n.rn n.rn)) rfl (by kernel_rfl) (by kernel_rfl) (by kernel_rfl) (fun _ _ _ h => h) (by rfl) ?_ (by assumption) ?_
                · intro w hSw
                  skip
                  go_simp
                simp only [Act.put, List.setIfInBounds_toArray, List.set_cons_zero, List.set_cons_succ]
                refine take_do (i := 12) (v := (.int .i64 (i : Nat))) rfl (by kernel_rfl) (by kernel_rfl) (by kernel_rfl) (fun _ _ _ h => h) (by rfl) ?_ (by assumption) ?_
                · intro w hSw
                  skip
                  go_simp
                simp only [Act.put, List.setIfInBounds_toArray, List.set_cons_zero, List.set_cons_succ]
                refine take_do (i := 13) (v := (.slice (some ⟨qb, 0, none⟩) q.length c)) rfl (by kernel_rfl) (by kernel_rfl) (by kernel_rfl) (fun _ _ _ h => h) (by rfl) ?_ (by assumption) ?_
                · intro w hSw
                  skip
                  go_simp
                simp only [Act.put, List.setIfInBounds_toArray, List.set_cons_zero, List.set_cons_succ]
                refine take_do (i := 14) (v := (.int .i64 (d : Nat))) rfl (by kernel_rfl) (by kernel_rfl) (by kernel_rfl) (fun _ _ _ h => h) (by rfl) ?_ (by assumption) ?_
                · intro w hSw
                  skip
                  go_simp
                simp only [Act.put, List.setIfInBounds_toArray, List.set_cons_zero, List.set_cons_succ]
                refine take_do (i := 15) (v := (.pointer (some ⟨qb, d, none⟩))) rfl (by kernel_rfl) (by kernel_rfl) (by kernel_rfl) (fun _ _ _ h => h) (by rfl) ?_ (by assumption) ?_
                · intro w hSw
                  skip
                  go_simp
                simp only [Act.put, List.setIfInBounds_toArray, List.set_cons_zero, List.set_cons_succ]
                refine take_do (i := 16) (v := (.int .i64 (u : Nat))) rfl (by kernel_rfl) (by kernel_rfl) (by kernel_rfl) (fun _ _ _ h => h) (by rfl) ?_ (by assumption) ?_
                · intro w hSw
                  have hc_cq := (hSw.cell (World.block_lt_of_cell? _ _ cq)).trans cq
                  go_simp
                simp only [Act.put, List.setIfInBounds_toArray, List.set_cons_zero, List.set_cons_succ]
                refine take_call (i := 17) rfl (by kernel_rfl) (fun K2 hK => ?_)
                go_simp
                refine (sroom_any n _ lk fa fk wa wk g n.rn fl i (u : Int) _ ((H.out.below HS2.out.base.old).below hHeld) (HS2.out.base.flow.below hHeld).at_ hlt (by omega) (by omega)).mono ?_
                rintro e Z2 ⟨rfl, hb⟩
                go_wp2_with fail
                refine hK.out _ _ (hHeld.trans (hb.mono hHeld.size)) (fun hHeld2 => ?_)
                clear hK hHeld hb
                have hHeld := hHeld2
                clear hHeld2
                refine take_do (i := 18) (v := (.bool (decide (0 < Fl.left n fl i (u : Int))))) rfl (by kernel_rfl) (by kernel_rfl) (by kernel_rfl) (fun _ _ _ h => h) (by rfl) ?_ (by assumption) ?_
                · intro w hSw
                  skip
                  go_simp
                simp only [Act.put, List.setIfInBounds_toArray, List.set_cons_zero, List.set_cons_succ]
                refine take_do (i := 19) (v := (.bool (decide (0 < Fl.left n fl i (u : Int))))) rfl (by kernel_rfl) (by kernel_rfl) (by kernel_rfl) (fun _ _ _ h => h) (by rfl) ?_ (by assumption) ?_
                · intro w hSw
                  skip
                  go_simp
                simp only [Act.put, List.setIfInBounds_toArray, List.set_cons_zero, List.set_cons_succ]
                refine wpAnyH_done (by kernel_rfl) ?_ _
                have HBZ := Lib.hid hHeld
                clear hHeld
                have HS3 := Lib.hid (HS2.out.below HBZ.out)
                clear HS2 HBZ cq p0 p1 p2 cv
                by_cases cr : 0 < Fl.left n fl i (u : Int)
                case neg =>
                  have dcr : decide (0 < Fl.left n fl i (u : Int)) = false := by simp [cr]
                  have HSN := Lib.hid (hSf.out.row hU.out (fun b hb hR => absurd (Fl.oth_room HRT.out hlt hR).2 cr))
                  rw [dcr]
                  clear cr dcr
                  go_wp2_with fail
                  go_roundw
                  case rel => exact ⟨i + 1, cm, q, _, c, rk, T, by omega, by go_num, rfl, HS3, HSN, hU, hDL⟩
                  case measure => simp [intOf]; omega
                have dcr : decide (0 < Fl.left n fl i (u : Int)) = true := by simp [cr]
                rw [dcr]
                have huq := (hSf.out.que u).1 (List.mem_of_getElem? hU.out)
                have hRm := Fl.room_oth HRT.out hlt HO.out.symm cr
                have HSP : Hid (Fl.Sf n fl (updI cm v ((i : Int) + 1)) (q ++ [v]) (fun x => if x = v then T + 1 else rk x) (T + 1) d (i + 1)) := by
                  have h1 := hSf.out.put huq.1 hv hlt huq.2 HCV.out hRm hDL.out
                  refine h1.row (by rw [List.getElem?_append_left hDL.out]; exact hU.out) (fun b hb hR => ?_)
                  have h2 := (Fl.oth_room HRT.out hlt hR).1
                  have h3 := HO.out
                  have e : b = v := by omega
                  rw [e]
                  unfold updI
                  rw [if_pos rfl]
                  omega
                have HUP : Hid ((q ++ [v])[d]? = some u) := by show _ = _; rw [List.getElem?_append_left hDL.out]; exact hU.out
                have HDP : Hid (d < (q ++ [v]).length) := by show _ < _; rw [List.length_append]; have := hDL.out; omega
                have hql := hSf.out.short
                clear hRm huq cr dcr hSf hU HU2
                have cv := HS3.out.come.cell hv
                have zv := HS3.out.come.frozen v
                have zg := HS3.out.come.lt
                obtain ⟨W2, hW2⟩ : ∃ W2, W2 = Z2.setCell ⟨gc, v, none⟩ (.int .i64 ((i : Int) + 1)) := ⟨_, rfl⟩
                have HS4 : Hid (SrS n (some ⟨b, 0, none⟩) lk fa fk wa wk g fl gc (updI cm v ((i : Int) + 1)) (.slice (some ⟨qb, 0, none⟩) q.length c) q w W2) := by rw [hW2]; exact HS3.out.set v _
                have hs2 : W2.heap.size = Z2.heap.size := by rw [hW2]; simp
                have HW2 := Lib.hid hW2
                clear hW2
                obtain ⟨hi1, hy0, hy1, hy2⟩ := HPI.out
                go_wp2_with (at_builtin; rw [← HW2.out]; refine wpList_append_own_at _ rfl _ _ 23 rfl (gc + 1) 2 i1 _ 1 8 Tryz.underlying23 hi1 hy0 hy1 hy2 rfl (by decide) _ _ _ rfl (HS4.out.que.alloc _) ⟨Z2.heap.size, 0, none⟩ 1 1 [.int .i64 (v : Nat)] rfl rfl ?d1 ?d2 ?d3 ?d4 ?d5 ?_)
                case d1 =>
                  intro q x hq
                  match q, hq with
                  | 0, hq =>
                    simp at hq
                    subst hq
                    rw [← hs2]
                    exact (rowN_alloc W2 [.int .i64 (v : Nat)] 2).cell (i := 0) (by simp)
                case d2 =>
                  intro x hx
                  simp at hx
                  subst hx
                  rfl
                case d3 => unfold maxLen; omega
                case d4 => omega
                case d5 => simp; omega
                intro v5 W5 hown hgrow hnil hat
                have HS5 := Lib.hid (HS4.out.push hgrow hown)
                obtain ⟨ad5, c5, rfl, hat5⟩ := own_at HS5.out.que
                clear hown hgrow hnil hat hat5 cv zv zg HS4 HS3 HW2
                go_wp2_with fail
                go_roundw
                case rel => exact ⟨i + 1, _, _, ad5, c5, _, _, by omega, by go_num, rfl, HS5, HSP, HUP, HDP⟩
                case measure => simp [intOf]; omega
              · obtain rfl : i = n.rn := by omega
                have HSN := Lib.hid hSf.out.next
                have hd2 : d < 41 := by have := hSf.out.short; have := hDL.out; omega
                go_wp2_with fail
                go_roundw
                case rel => exact ⟨d + 1, cm, q, ad, c, rk, T, by omega, by go_num, rfl, hS, HSN⟩
                case measure => simp [intOf]; omega
          · have ect : (cm t == 0) = false := by simp [hct]
            have hc1 : ¬ cm t ≤ 0 := fun x => by
              have h1 := hSf.out.rng t ht
              exact HNS.out ((hSf.out.src t ht).1 (by omega))
            have HAU : Hid (Fl.Aug n t fl cm rk fl t k) := Fl.Aug.start HF0.out ht hct
            clear hct
            go_wp2_with fail
            clear ct ect hc1
            go_loopw [13, 14] (fun xv _ wr => ∃ (x : Nat) (cur : Nat → Int), xv = .int .i64 x ∧ Hid (SrS n la lk fa fk wa wk g cur gc cm (.slice ad q.length c) q w wr) ∧ Hid (Fl.Aug n t fl cm rk cur x k)) (fun xv _ _ => rk (intOf xv).toNat)
            case atStart => exact ⟨t, fl, rfl, hS, HAU⟩
            case round =>
              clear hS HAU
              obtain ⟨x, cur, rfl, hS, hA⟩ := hrel
              have hx := hA.out.lt
              have hxz : (x : Int) < (n.hn : Int) := by omega
              have cx := hS.out.come.cell hx
              by_cases hc1 : 1 ≤ cm x
              · obtain ⟨i, u, hin, hci, hu, hrk, hcase⟩ := Fl.Aug.step HRT.out hSf.out hA.out hc1
                rw [hci] at cx
                have hinz : (i : Int) < (n.rn : Int) := by omega
                obtain ⟨⟨p0, p1, p2⟩, _⟩ := rowN3 hS.out.base.row
                obtain ⟨b, e, c0, c1, c2⟩ := (H.out.below hS.out.base.old).l.at3 hin
                subst e
                have cf := hS.out.base.flow.cell hin
                have zf := hS.out.base.flow.frozen i
                have zg := hS.out.base.flow.lt
                have hm := hA.out.most i hin
                have hcp : Fl.cap n i ≤ 1000 := by unfold Fl.cap; split <;> omega
                have e1 := HRT.out.from_eq hin
                have e2 := HRT.out.to_eq hin
                have hne := HRT.out.ne hin
                have HRK : Hid (rk u < rk x) := hrk
                have zb : b < w.heap.size := by
                  obtain ⟨b', e, c0', _⟩ := H.out.l.at3 hin
                  cases e
                  exact World.block_lt_of_cell? _ _ c0'
                have hlo := hS.out.base.lo
                clear hc1 hci hA
                rcases hcase with ⟨hf, htt, hA2⟩ | ⟨hf, htt, hA2⟩
                · have HO : Hid (Pl.oth n i (x : Int) = (u : Int)) := by show _ = _; unfold Pl.oth; rw [if_neg (by omega), if_pos (by omega)]; omega
                  have eto : (n.R (i * 3 + 1) == (x : Int)) = true := by simp; omega
                  have HA2 := Lib.hid hA2
                  have HS2 := Lib.hid (hS.out.setF i (cur i + 1))
                  obtain ⟨W2, hW2⟩ : ∃ W2, W2 = wr.setCell ⟨g, i, none⟩ (.int .i64 (cur i + 1)) := ⟨_, rfl⟩
                  rw [← hW2] at HS2
                  have HW2 := Lib.hid hW2
                  clear hW2 hA2 hf htt e1 e2 hne hS
                  go_wp2_with fail
                  rw [← HW2.out]
                  refine (sother_any n i (x : Int) _).mono ?_
                  rintro e w3 ⟨rfl, hb⟩
                  rw [HO.out]
                  have HS3 := Lib.hid (HS2.out.below hb)
                  clear hb HS2 HW2 c0 c1 c2 cf zf zg p0 p1 p2 cx eto
                  go_wp2_with fail
                  go_roundw
                  case rel => exact ⟨u, _, rfl, HS3, HA2⟩
                  case measure => simpa [intOf] using HRK.out
                · have HO : Hid (Pl.oth n i (x : Int) = (u : Int)) := by show _ = _; unfold Pl.oth; rw [if_pos (by omega)]; omega
                  have eto : (n.R (i * 3 + 1) == (x : Int)) = false := by simp; omega
                  have HA2 := Lib.hid hA2
                  have HS2 := Lib.hid (hS.out.setF i (cur i - 1))
                  obtain ⟨W2, hW2⟩ : ∃ W2, W2 = wr.setCell ⟨g, i, none⟩ (.int .i64 (cur i - 1)) := ⟨_, rfl⟩
                  rw [← hW2] at HS2
                  have HW2 := Lib.hid hW2
                  clear hW2 hA2 hf htt e1 e2 hne hS
                  go_wp2_with fail
                  rw [← HW2.out]
                  refine (sother_any n i (x : Int) _).mono ?_
                  rintro e w3 ⟨rfl, hb⟩
                  rw [HO.out]
                  have HS3 := Lib.hid (HS2.out.below hb)
                  clear hb HS2 HW2 c0 c1 c2 cf zf zg p0 p1 p2 cx eto
                  go_wp2_with fail
                  go_roundw
                  case rel => exact ⟨u, _, rfl, HS3, HA2⟩
                  case measure => simpa [intOf] using HRK.out
              · have HRF := Lib.hid (Fl.Aug.stop hSf.out HF0.out hA.out hc1)
                have hc0 : ¬ 0 < cm x := by omega
                clear hc1 hA
                go_wp2_with fail
                go_roundw
                case rel => exact ⟨k + 1, cur, by omega, by go_num, hS.out.base, HRF⟩
                case measure => simp [intOf]; omega
        · have hdl2 : ¬ (d : Int) < (q.length : Int) := by omega
          by_cases hct : cm t = 0
          · have ect : (cm t == 0) = true := by simp [hct]
            rw [hct] at ct
            have HCL := Lib.hid (hSf.out.closed (by omega))
            have HCT := Lib.hid hct
            clear ect hct
            go_wp2_with fail
            go_ret
            refine ⟨⟨g, rfl, by have := hS.out.base.lo; omega, fl, hS.out.base.flow, k, HF0.out, by omega, fun v => cm v != 0, fun v hv hs => ?_, fun a b ha hb hR hca => ?_, ?_⟩, hS.out.base.old⟩
            · have := (hSf.out.src v hv).2 hs
              simp [this]
            · have := HCL.out a b ha hb hR (by simpa using hca)
              simpa using this
            · simp [HCT.out]
          · have ect : (cm t == 0) = false := by simp [hct]
            have hc1 : ¬ cm t ≤ 0 := fun x => by
              have h1 := hSf.out.rng t ht
              exact HNS.out ((hSf.out.src t ht).1 (by omega))
            have HAU : Hid (Fl.Aug n t fl cm rk fl t k) := Fl.Aug.start HF0.out ht hct
            clear hct
            go_wp2_with fail
            clear ct ect hc1
            go_loopw [13, 14] (fun xv _ wr => ∃ (x : Nat) (cur : Nat → Int), xv = .int .i64 x ∧ Hid (SrS n la lk fa fk wa wk g cur gc cm (.slice ad q.length c) q w wr) ∧ Hid (Fl.Aug n t fl cm rk cur x k)) (fun xv _ _ => rk (intOf xv).toNat)
            case atStart => exact ⟨t, fl, rfl, hS, HAU⟩
            case round =>
              clear hS HAU
              obtain ⟨x, cur, rfl, hS, hA⟩ := hrel
              have hx := hA.out.lt
              have hxz : (x : Int) < (n.hn : Int) := by omega
              have cx := hS.out.come.cell hx
              by_cases hc1 : 1 ≤ cm x
              · obtain ⟨i, u, hin, hci, hu, hrk, hcase⟩ := Fl.Aug.step HRT.out hSf.out hA.out hc1
                rw [hci] at cx
                have hinz : (i : Int) < (n.rn : Int) := by omega
                obtain ⟨⟨p0, p1, p2⟩, _⟩ := rowN3 hS.out.base.row
                obtain ⟨b, e, c0, c1, c2⟩ := (H.out.below hS.out.base.old).l.at3 hin
                subst e
                have cf := hS.out.base.flow.cell hin
                have zf := hS.out.base.flow.frozen i
                have zg := hS.out.base.flow.lt
                have hm := hA.out.most i hin
                have hcp : Fl.cap n i ≤ 1000 := by unfold Fl.cap; split <;> omega
                have e1 := HRT.out.from_eq hin
                have e2 := HRT.out.to_eq hin
                have hne := HRT.out.ne hin
                have HRK : Hid (rk u < rk x) := hrk
                have zb : b < w.heap.size := by
                  obtain ⟨b', e, c0', _⟩ := H.out.l.at3 hin
                  cases e
                  exact World.block_lt_of_cell? _ _ c0'
                have hlo := hS.out.base.lo
                clear hc1 hci hA
                rcases hcase with ⟨hf, htt, hA2⟩ | ⟨hf, htt, hA2⟩
                · have HO : Hid (Pl.oth n i (x : Int) = (u : Int)) := by show _ = _; unfold Pl.oth; rw [if_neg (by omega), if_pos (by omega)]; omega
                  have eto : (n.R (i * 3 + 1) == (x : Int)) = true := by simp; omega
                  have HA2 := Lib.hid hA2
                  have HS2 := Lib.hid (hS.out.setF i (cur i + 1))
                  obtain ⟨W2, hW2⟩ : ∃ W2, W2 = wr.setCell ⟨g, i, none⟩ (.int .i64 (cur i + 1)) := ⟨_, rfl⟩
                  rw [← hW2] at HS2
                  have HW2 := Lib.hid hW2
                  clear hW2 hA2 hf htt e1 e2 hne hS
                  go_wp2_with fail
                  rw [← HW2.out]
                  refine (sother_any n i (x : Int) _).mono ?_
                  rintro e w3 ⟨rfl, hb⟩
                  rw [HO.out]
                  have HS3 := Lib.hid (HS2.out.below hb)
                  clear hb HS2 HW2 c0 c1 c2 cf zf zg p0 p1 p2 cx eto
                  go_wp2_with fail
                  go_roundw
                  case rel => exact ⟨u, _, rfl, HS3, HA2⟩
                  case measure => simpa [intOf] using HRK.out
                · have HO : Hid (Pl.oth n i (x : Int) = (u : Int)) := by show _ = _; unfold Pl.oth; rw [if_pos (by omega)]; omega
                  have eto : (n.R (i * 3 + 1) == (x : Int)) = false := by simp; omega
                  have HA2 := Lib.hid hA2
                  have HS2 := Lib.hid (hS.out.setF i (cur i - 1))
                  obtain ⟨W2, hW2⟩ : ∃ W2, W2 = wr.setCell ⟨g, i, none⟩ (.int .i64 (cur i - 1)) := ⟨_, rfl⟩
                  rw [← hW2] at HS2
                  have HW2 := Lib.hid hW2
                  clear hW2 hA2 hf htt e1 e2 hne hS
                  go_wp2_with fail
                  rw [← HW2.out]
                  refine (sother_any n i (x : Int) _).mono ?_
                  rintro e w3 ⟨rfl, hb⟩
                  rw [HO.out]
                  have HS3 := Lib.hid (HS2.out.below hb)
                  clear hb HS2 HW2 c0 c1 c2 cf zf zg p0 p1 p2 cx eto
                  go_wp2_with fail
                  go_roundw
                  case rel => exact ⟨u, _, rfl, HS3, HA2⟩
                  case measure => simpa [intOf] using HRK.out
              · have HRF := Lib.hid (Fl.Aug.stop hSf.out HF0.out hA.out hc1)
                have hc0 : ¬ 0 < cm x := by omega
                clear hc1 hA
                go_wp2_with fail
                go_roundw
                case rel => exact ⟨k + 1, cur, by omega, by go_num, hS.out.base, HRF⟩
                case measure => simp [intOf]; omega
end Go.Proofs.YtipmjobhegpdgaaGreatDoor
