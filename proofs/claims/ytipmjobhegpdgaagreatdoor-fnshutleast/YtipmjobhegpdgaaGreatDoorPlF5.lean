/-
  The model's fewest rows that shut a place off.
-/
import Derived.Test.YtipmjobhegpdgaaGreatDoorPlF4
namespace Go.Proofs.YtipmjobhegpdgaaGreatDoor
open Go Go.RowKit Go.Deep

namespace Fl
/-- The code of the fewest rows. -/
noncomputable def lcode (n : Pl.Plan) (place : Int) : Int := if dB (Pl.Right n ∧ 0 ≤ place ∧ place < n.hn) = true then (if dB (Pl.Wet n (Pl.Good n) place.toNat) = true then 4 else 0) else 1
noncomputable def lrows (n : Pl.Plan) (place : Int) : List Nat := if dB (lcode n place = 0 ∧ ∃ N, Best n place.toNat N) = true then about n (Classical.epsilon (Best n place.toNat)) else []
noncomputable def lhomes (n : Pl.Plan) (place : Int) : Int := if dB (lcode n place = 0) = true then Pl.homes n (lrows n place).length (fun j => (((lrows n place).getD j 0 : Nat) : Int)) else 0
theorem lcode_form {n : Pl.Plan} {place : Int} (h : ¬ (Pl.Right n ∧ 0 ≤ place ∧ place < n.hn)) : lcode n place = 1 := by unfold lcode; rw [dB_ff h]; rfl
theorem lcode_none {n : Pl.Plan} {t : Nat} (hr : Pl.Right n) (ht : t < n.hn) (h : Pl.Wet n (Pl.Good n) t) : lcode n t = 4 := by
  unfold lcode
  rw [dB_tt ⟨hr, by omega, by omega⟩]
  have e : ((t : Int)).toNat = t := by omega
  rw [e, dB_tt h]; rfl
theorem lcode_ok {n : Pl.Plan} {t : Nat} (hr : Pl.Right n) (ht : t < n.hn) (h : ¬ Pl.Wet n (Pl.Good n) t) : lcode n t = 0 := by
  unfold lcode
  rw [dB_tt ⟨hr, by omega, by omega⟩]
  have e : ((t : Int)).toNat = t := by omega
  rw [e, dB_ff h]; rfl
theorem lrows_bad {n : Pl.Plan} {place : Int} (h : lcode n place ≠ 0) : lrows n place = [] := by unfold lrows; rw [dB_ff (fun x => h x.1)]; rfl
theorem lhomes_bad {n : Pl.Plan} {place : Int} (h : lcode n place ≠ 0) : lhomes n place = 0 := by unfold lhomes; rw [dB_ff h]; rfl
theorem lrows_ok {n : Pl.Plan} {t : Nat} {N : Nat → Bool} (hr : Pl.Right n) (ht : t < n.hn) (hc : lcode n t = 0) (h : Best n t N) : lrows n t = about n N := by
  have e : ((t : Int)).toNat = t := by omega
  unfold lrows
  rw [e, dB_tt ⟨hc, N, h⟩]
  exact Best.about_eq hr ht (Classical.epsilon_spec (p := Best n t) ⟨N, h⟩) h
/-- Closed at one row. -/
def Cl1 (n : Pl.Plan) (fl : Nat → Int) (u : Nat → Bool) (i : Nat) : Prop := ∀ a b, roomR n fl i a b → u b = true → u a = true
/-- Within all that is closed about t. -/
def Lst (n : Pl.Plan) (fl : Nat → Int) (t : Nat) (u : Nat → Bool) : Prop := ∀ M : Nat → Bool, M t = true → (∀ a b, a < n.hn → b < n.hn → RoomP n fl a b → M b = true → M a = true) → ∀ a, a < n.hn → u a = true → M a = true
theorem Lst.start (n : Pl.Plan) (fl : Nat → Int) (t : Nat) : Lst n fl t (updB (fun _ => false) t true) := fun M hM _ a _ h => by
  unfold updB at h
  by_cases e : a = t
  · rw [e]; exact hM
  · rw [if_neg e] at h; cases h
theorem Lst.put {n : Pl.Plan} {fl : Nat → Int} {t : Nat} {u : Nat → Bool} (h : Lst n fl t u) {a b : Nat} (ha : a < n.hn) (hb : b < n.hn) (hR : RoomP n fl a b) (hu : u b = true) : Lst n fl t (updB u a true) := fun M hM hc v hv hx => by
  unfold updB at hx
  by_cases e : v = a
  · rw [e]; exact hc a b ha hb hR (h M hM hc b hb hu)
  · rw [if_neg e] at hx; exact h M hM hc v hv hx
theorem near_of {n : Pl.Plan} {fl : Nat → Int} {t : Nat} {u : Nat → Bool} (h1 : u t = true) (h2 : Lst n fl t u) (h3 : ∀ i, i < n.rn → Cl1 n fl u i) : NearR n fl t u :=
  ⟨h1, fun a b _ _ hR hb => by obtain ⟨i, hi, hr⟩ := hR; exact h3 i hi a b hr hb, h2⟩
/-- The rows about, below i. -/
def abTo (n : Pl.Plan) (N : Nat → Bool) (i : Nat) : List Nat := (List.range i).filter fun r => N (n.from_ r) != N (n.to_ r)
theorem abTo_in {n : Pl.Plan} {N : Nat → Bool} {i : Nat} (h : (N (n.from_ i) != N (n.to_ i)) = true) : abTo n N (i + 1) = abTo n N i ++ [i] := by
  unfold abTo; rw [List.range_succ, List.filter_append]; simp [h]
theorem abTo_out {n : Pl.Plan} {N : Nat → Bool} {i : Nat} (h : (N (n.from_ i) != N (n.to_ i)) = false) : abTo n N (i + 1) = abTo n N i := by
  unfold abTo; rw [List.range_succ, List.filter_append]; simp [h]
theorem abTo_len {n : Pl.Plan} {N : Nat → Bool} {i : Nat} : (abTo n N i).length ≤ i := by
  have := List.length_filter_le (fun r => N (n.from_ r) != N (n.to_ r)) (List.range i)
  simpa [abTo] using this
end Fl
theorem dsize_le {n : Pl.Plan} (h : Pl.Right n) : PlSmall n := by
  have h1 := h.r
  have h2 := h.h2
  have h3 := h.sn40
  exact ⟨by omega, by omega, by omega⟩
/-- What stands in the search for near places. -/
structure NrS (n : Pl.Plan) (la : Option Addr) (lk : Nat) (fa : Option Addr) (fk : Nat) (wa : Option Addr) (wk : Nat) (g : Nat) (fl : Nat → Int) (gn : Nat) (u : Nat → Bool) (w W : World) : Prop where
  base : FwS n la lk fa fk wa wk g fl w W
  blk : BBlk gn n.hn u W
  lo : g < gn
theorem NrS.below {n : Pl.Plan} {la : Option Addr} {lk : Nat} {fa : Option Addr} {fk : Nat} {wa : Option Addr} {wk g : Nat} {fl : Nat → Int} {gn : Nat} {u : Nat → Bool} {w W W' : World} (h : NrS n la lk fa fk wa wk g fl gn u w W) (hb : Below W.heap.size W W') : NrS n la lk fa fk wa wk g fl gn u w W' :=
  ⟨h.base.below hb, h.blk.below hb, h.lo⟩
theorem NrS.set {n : Pl.Plan} {la : Option Addr} {lk : Nat} {fa : Option Addr} {fk : Nat} {wa : Option Addr} {wk g : Nat} {fl : Nat → Int} {gn : Nat} {u : Nat → Bool} {w W : World} (h : NrS n la lk fa fk wa wk g fl gn u w W) (i : Nat) (x : Bool) : NrS n la lk fa fk wa wk g fl gn (updB u i x) w (W.setCell ⟨gn, i, none⟩ (.bool x)) :=
  ⟨h.base.grown (grown_set W ⟨gn, i, none⟩ _) (fun k e => by cases e; exact h.lo), h.blk.set i x, h.lo⟩
/-- What stands while the answer is gathered. -/
structure OuS (n : Pl.Plan) (la : Option Addr) (lk : Nat) (fa : Option Addr) (fk : Nat) (wa : Option Addr) (wk : Nat) (g : Nat) (fl : Nat → Int) (gn : Nat) (u : Nat → Bool) (gr go : Nat) (rv : Value) (l : List Nat) (w W : World) : Prop where
  nr : NrS n la lk fa fk wa wk g fl gn u w W
  ret : W.rowIs gr 28 3 (rowN [.slice none 0 0, .int .i64 0, .int .i64 0])
  out : W.rowIs go 28 3 (rowN [rv, .int .i64 0, .int .i64 0])
  own : W.ownsRow (go + 1) 2 1 rv l.length (numsV l)
  lo : gn < go
  l2 : gr < g
theorem OuS.below {n : Pl.Plan} {la : Option Addr} {lk : Nat} {fa : Option Addr} {fk : Nat} {wa : Option Addr} {wk g : Nat} {fl : Nat → Int} {gn : Nat} {u : Nat → Bool} {gr go : Nat} {rv : Value} {l : List Nat} {w W W' : World} (h : OuS n la lk fa fk wa wk g fl gn u gr go rv l w W) (hb : Below W.heap.size W W') : OuS n la lk fa fk wa wk g fl gn u gr go rv l w W' :=
  ⟨h.nr.below hb, nrow_below h.ret hb, nrow_below h.out hb, h.own.kept (row := none) ⟨hb.os, hb.tape, hb.output, hb.size, fun q hq _ => hb.block q hq⟩ (by cases rv.ownBlock <;> simp), h.lo, h.l2⟩
theorem OuS.low {n : Pl.Plan} {la : Option Addr} {lk : Nat} {fa : Option Addr} {fk : Nat} {wa : Option Addr} {wk g : Nat} {fl : Nat → Int} {gn : Nat} {u : Nat → Bool} {gr go : Nat} {rv rv' : Value} {l l' : List Nat} {w W W' : World} (h : OuS n la lk fa fk wa wk g fl gn u gr go rv l w W) (hb : Below go W W') (ho : W'.rowIs go 28 3 (rowN [rv', .int .i64 0, .int .i64 0])) (hv : W'.ownsRow (go + 1) 2 1 rv' l'.length (numsV l')) : OuS n la lk fa fk wa wk g fl gn u gr go rv' l' w W' := by
  have h1 := h.lo
  have h2 := h.l2
  have h3 := h.nr.lo
  have h4 := h.nr.base.lo
  exact ⟨⟨⟨h.nr.base.old.trans (hb.mono (by omega)), h.nr.base.row.of_block (hb.block _ (by omega)), h.nr.base.flow.block (hb.block _ (by omega)), h4⟩, h.nr.blk.other (hb.block _ (by omega)), h.nr.lo⟩, h.ret.of_block (hb.block _ (by omega)), ho, hv, h.lo, h.l2⟩
theorem own_set {W : World} {B : Nat} {v : Value} {k : Nat} {l : List Value} (h : W.ownsRow B 2 1 v k l) {p : Addr} (hp : p.block < B) (x : Value) : (W.setCell p x).ownsRow B 2 1 v k l :=
  h.kept (grown_set W p x) (Or.inr (fun e => by have := (h.lt _ e).1; omega))
theorem OuS.app {n : Pl.Plan} {la : Option Addr} {lk : Nat} {fa : Option Addr} {fk : Nat} {wa : Option Addr} {wk g : Nat} {fl : Nat → Int} {gn : Nat} {u : Nat → Bool} {gr go : Nat} {rv : Value} {l : List Nat} {w W : World} (h : OuS n la lk fa fk wa wk g fl gn u gr go rv l w W) {m : Nat} {o : Obj} {W5 : World} (hg : ((W.drewN m).alloc o).grownBy W5 rv.ownBlock) {v5 : Value} {x : Nat} (hown : W5.ownsRow (go + 1) 2 1 v5 (l.length + 1) (numsV l ++ [.int .i64 (x : Nat)])) : W5.rowIs go 28 3 (rowN [rv, .int .i64 0, .int .i64 0]) ∧ OuS n la lk fa fk wa wk g fl gn u gr go v5 (l ++ [x]) w (W5.setCell ⟨go, 0, none⟩ v5) := by
  have hlt := fun k e => (h.own.lt k e).1
  have hl := h.out.lt
  have hOa := (h.below (ndrewN (Below.refl _ _) m)).below (nbel_alloc _ o)
  have hbg : Below go ((W.drewN m).alloc o) W5 := (Below.refl go _).grown hg (by have := hOa.out.lt; omega) (fun k e => by have := hlt k e; omega)
  have ho5 := hOa.out.of_block (hg.block _ hOa.out.lt (fun e => by have := hlt _ e.symm; omega))
  refine ⟨ho5, hOa.low (hbg.setCell (p := ⟨go, 0, none⟩) (Nat.le_refl _) _) (rowN_put ho5 0 v5 (by simp)) ?_⟩
  rw [List.length_append]
  have e1 : numsV (l ++ [x]) = numsV l ++ [.int .i64 (x : Nat)] := by simp [numsV]
  rw [e1]
  exact own_set hown (p := ⟨go, 0, none⟩) (by show go < go + 1; omega) _
theorem pset3 {B g : Nat} {w W : World} {a b c : Value} (h : Below B w W) (hg : B ≤ g) : Below B w (((W.setCell ⟨g, 0, none⟩ a).setCell ⟨g, 1, none⟩ b).setCell ⟨g, 2, none⟩ c) :=
  ((h.setCell (p := ⟨g, 0, none⟩) hg _).setCell (p := ⟨g, 1, none⟩) hg _).setCell (p := ⟨g, 2, none⟩) hg _
/-- The answer's place, as it begins. -/
abbrev shZ : List Value := [.slice none 0 0, .int .i64 0, .int .i64 0]
set_option maxRecDepth 100000 in
set_option maxHeartbeats 4000000 in
theorem specLeast_any (n : Pl.Plan) (la : Option Addr) (lk : Nat) (fa : Option Addr) (fk : Nat) (wa : Option Addr) (wk : Nat) (place : Int) (w : World) (h : PlAt n la fa wa w) (hs : PlSmall n) :
    Calls Tryz.prog 7 #[plV n la lk fa fk wa wk, .int .i64 place] w fun e w' => (∃ rv, e = .returned (.agg #[rv, .int .i64 (Fl.lhomes n place), .int .i64 (Fl.lcode n place)]) ∧ w'.ownsRow w.heap.size 2 1 rv (Fl.lrows n place).length (numsV (Fl.lrows n place))) ∧ Below w.heap.size w w' := by
  obtain ⟨W0, hW⟩ : ∃ W, W = (w.alloc (.cells #[.slice la n.rn lk, .slice fa n.sn fk, .slice wa n.hn wk] 32)).alloc (.cells #[.slice none 0 0, .int .i64 0, .int .i64 0] 28) := ⟨_, rfl⟩
  have HB : Hid (Below w.heap.size w W0) := by show Below _ _ _; rw [hW]; exact ((Below.refl _ _).alloc (Nat.le_refl _) _).alloc (by simp) _
  have HR : Hid (W0.rowIs w.heap.size 32 3 (rowN (plL n la lk fa fk wa wk))) := by show World.rowIs _ _ _ _ _; rw [hW]; exact nrow_below (rowN_alloc w _ _) (nbel_alloc _ _)
  have HT : Hid (W0.rowIs (w.heap.size + 1) 28 3 (rowN shZ)) := by
    show World.rowIs _ _ _ _ _
    rw [hW]
    have := rowN_alloc (w.alloc (.cells #[.slice la n.rn lk, .slice fa n.sn fk, .slice wa n.hn wk] 32)) shZ 28
    simpa using this
  have H := Lib.hid h
  have HS := Lib.hid hs
  have HW := Lib.hid hW
  clear hW h hs
  go_enter Tryz.func7, Tryz.ntmps7
  go_wp2_with fail
  rw [← HW.out]
  refine (specPlan_any n la lk fa fk wa wk _ (H.out.below HB.out) HS.out).mono ?_
  rintro e w1 ⟨rfl, hb1⟩
  have HB1 : Hid (Below w.heap.size w w1) := HB.out.trans (hb1.mono HB.out.size)
  have HR1 := Lib.hid (nrow_below HR.out hb1)
  have HT1 := Lib.hid (nrow_below HT.out hb1)
  clear hb1 HB HR HW HT
  obtain ⟨⟨p0, p1, p2⟩, _⟩ := rowN3 HR1.out
  obtain ⟨⟨q0, q1, q2⟩, z0, z1, z2⟩ := rowN3 HT1.out
  have zl := HT1.out.lt
  by_cases c2 : Pl.Right n
  case neg =>
    rw [dB_ff c2]
    have HE := Lib.hid (Fl.lcode_form (n := n) (place := place) (fun x => c2 x.1))
    clear c2
    have HE2 := Lib.hid (Fl.lhomes_bad (n := n) (place := place) (by rw [HE.out]; omega))
    have HE3 := Lib.hid (Fl.lrows_bad (n := n) (place := place) (by rw [HE.out]; omega))
    go_wp2_with fail
    refine bodyPost_ret (v := .agg #[.slice none 0 0, .int .i64 0, .int .i64 1]) (by simp [results, Tryz.results7, go_sem, q0, q1, q2]) rfl ⟨⟨.slice none 0 0, by rw [HE.out, HE2.out], by rw [HE3.out]; exact World.ownsRow_nil _ _ _ _⟩, pset3 HB1.out (by omega)⟩
  rw [dB_tt c2]
  have HRT := Lib.hid c2
  have hrn := c2.r
  have hhn := c2.h2
  clear c2
  by_cases c3 : place < 0
  · have HE := Lib.hid (Fl.lcode_form (n := n) (place := place) (fun x => by omega))
    have HE2 := Lib.hid (Fl.lhomes_bad (n := n) (place := place) (by rw [HE.out]; omega))
    have HE3 := Lib.hid (Fl.lrows_bad (n := n) (place := place) (by rw [HE.out]; omega))
    go_wp2_with fail
    refine bodyPost_ret (v := .agg #[.slice none 0 0, .int .i64 0, .int .i64 1]) (by simp [results, Tryz.results7, go_sem, q0, q1, q2]) rfl ⟨⟨.slice none 0 0, by rw [HE.out, HE2.out], by rw [HE3.out]; exact World.ownsRow_nil _ _ _ _⟩, pset3 HB1.out (by omega)⟩
  by_cases c4 : (n.hn : Int) ≤ place
  · have HE := Lib.hid (Fl.lcode_form (n := n) (place := place) (fun x => by omega))
    have HE2 := Lib.hid (Fl.lhomes_bad (n := n) (place := place) (by rw [HE.out]; omega))
    have HE3 := Lib.hid (Fl.lrows_bad (n := n) (place := place) (by rw [HE.out]; omega))
    go_wp2_with fail
    refine bodyPost_ret (v := .agg #[.slice none 0 0, .int .i64 0, .int .i64 1]) (by simp [results, Tryz.results7, go_sem, q0, q1, q2]) rfl ⟨⟨.slice none 0 0, by rw [HE.out, HE2.out], by rw [HE3.out]; exact World.ownsRow_nil _ _ _ _⟩, pset3 HB1.out (by omega)⟩
  obtain ⟨t, rfl⟩ : ∃ t : Nat, place = (t : Int) := ⟨place.toNat, by omega⟩
  have ht : t < n.hn := by omega
  have htz : (t : Int) < (n.hn : Int) := by omega
  clear c3
  go_wp2_with fail
  refine wp_region_held_drew (S := fun V => Below w1.heap.size w1 V) (by kernel_rfl) (Below.refl _ _).drew (fun hHeld => ?_)
  obtain ⟨Z, hZ⟩ : ∃ Z, Z = w1.drew := ⟨_, rfl⟩
  rw [← hZ] at hHeld ⊢
  clear hZ
  refine take_do (i := 0) (v := (plV n la lk fa fk wa wk)) rfl (by kernel_rfl) (by kernel_rfl) (by kernel_rfl) (fun _ _ _ h => h) (by rfl) ?_ (by assumption) ?_
  · intro w hSw
    have hc_p0 := (hSw.cell (World.block_lt_of_cell? _ _ p0)).trans p0
    have hc_p1 := (hSw.cell (World.block_lt_of_cell? _ _ p1)).trans p1
    have hc_p2 := (hSw.cell (World.block_lt_of_cell? _ _ p2)).trans p2
    go_simp
  simp only [Act.put, List.setIfInBounds_toArray, List.set_cons_zero, List.set_cons_succ]
  refine take_do (i := 1) (v := (plV n la lk fa fk wa wk)) rfl (by kernel_rfl) (by kernel_rfl) (by kernel_rfl) (fun _ _ _ h => h) (by rfl) ?_ (by assumption) ?_
  · intro w hSw
    have hc_p0 := (hSw.cell (World.block_lt_of_cell? _ _ p0)).trans p0
    have hc_p1 := (hSw.cell (World.block_lt_of_cell? _ _ p1)).trans p1
    have hc_p2 := (hSw.cell (World.block_lt_of_cell? _ _ p2)).trans p2
    go_simp
  simp only [Act.put, List.setIfInBounds_toArray, List.set_cons_zero, List.set_cons_succ]
  refine take_do (i := 4) (v := (.int .i64 (t : Nat))) rfl (by kernel_rfl) (by kernel_rfl) (by kernel_rfl) (fun _ _ _ h => h) (by rfl) ?_ (by assumption) ?_
  · intro w hSw
    skip
    go_simp
  simp only [Act.put, List.setIfInBounds_toArray, List.set_cons_zero, List.set_cons_succ]
  refine take_call (i := 2) rfl (by kernel_rfl) (fun K2 hK => ?_)
  go_simp
  refine (sgood_any n la lk fa fk wa wk _ ((H.out.below HB1.out).below hHeld) HS.out).mono ?_
  rintro e w2 ⟨⟨v, rfl, hO⟩, hb⟩
  obtain ⟨ga, gcp, rfl, hat⟩ := own_at hO
  have HAT := Lib.hid hat
  have hgl := Fl.goodTo_len (n := n) (i := n.rn)
  clear hO hat
  go_wp2_with fail
  refine hK.out _ _ (hHeld.trans (hb.mono hHeld.size)) (fun hHeld2 => ?_)
  clear hK hHeld hb
  have hHeld := hHeld2
  clear hHeld2
  refine take_call (i := 3) rfl (by kernel_rfl) (fun K2 hK => ?_)
  go_simp
  refine (swet_any n la lk fa fk wa wk ga _ gcp _ _ ((H.out.below HB1.out).below hHeld) HRT.out HAT.out (by omega)).mono ?_
  rintro e w3 ⟨⟨gw, u, rfl, _, hblk, hu⟩, hb⟩
  have cn := World.rowIs.cell hblk ht
  have hut : u t = true ↔ Pl.Wet n (Pl.Good n) t := by
    rw [hu t ht]
    exact ⟨Pl.Wet.mono (fun i x => Fl.good_iff.2 x), Pl.Wet.mono (fun i x => Fl.good_iff.1 x)⟩
  clear hu hblk HAT
  go_wp2_with fail
  refine hK.out _ _ (hHeld.trans (hb.mono hHeld.size)) (fun hHeld2 => ?_)
  clear hK hHeld hb
  have hHeld := hHeld2
  clear hHeld2
  refine take_call (i := 5) rfl (by kernel_rfl) (fun K2 hK => ?_)
  go_simp
  refine hK.out _ _ hHeld (fun _ => ?_)
  clear hK
  refine take_call (i := 6) rfl (by kernel_rfl) (fun K2 hK => ?_)
  go_simp
  refine hK.out _ _ hHeld (fun _ => ?_)
  clear hK
  refine wpAnyH_done (by kernel_rfl) ?_ _
  have HB3 : Hid (Below w.heap.size w w3) := HB1.out.trans (hHeld.mono HB1.out.size)
  have HR3 := Lib.hid (nrow_below HR1.out hHeld)
  have HT3 := Lib.hid (nrow_below HT1.out hHeld)
  clear hHeld HB1 HR1 HT1 p0 p1 p2 q0 q1 q2 z0 z1 z2 zl
  cases hw : u t with
  | true =>
    rw [hw] at cn
    have HE := Lib.hid (Fl.lcode_none HRT.out ht (hut.1 hw))
    clear hut hw
    obtain ⟨⟨q0, q1, q2⟩, z0, z1, z2⟩ := rowN3 HT3.out
    have zl := HT3.out.lt
    have HE2 := Lib.hid (Fl.lhomes_bad (n := n) (place := (t : Int)) (by rw [HE.out]; omega))
    have HE3 := Lib.hid (Fl.lrows_bad (n := n) (place := (t : Int)) (by rw [HE.out]; omega))
    go_wp2_with fail
    refine bodyPost_ret (v := .agg #[.slice none 0 0, .int .i64 0, .int .i64 4]) (by simp [results, Tryz.results7, go_sem, q0, q1, q2]) rfl ⟨⟨.slice none 0 0, by rw [HE.out, HE2.out], by rw [HE3.out]; exact World.ownsRow_nil _ _ _ _⟩, pset3 HB3.out (by omega)⟩
  | false =>
    rw [hw] at cn
    have HD : Hid (¬ Pl.Wet n (Pl.Good n) t) := fun x => by have := hut.2 x; rw [hw] at this; cases this
    clear hut hw
    obtain ⟨⟨p0, p1, p2⟩, _⟩ := rowN3 HR3.out
    go_wp2_with fail
    refine (sflow_any n la lk fa fk wa wk t _ (H.out.below HB3.out) HRT.out ht HD.out).mono ?_
    rintro e w4 ⟨⟨g, fl, k, A, rfl, hg0, hfl, hRF, hk, hA1, hA2, hA3⟩, hb4⟩
    have HFW : Hid (FwS n la lk fa fk wa wk g fl w w4) := ⟨HB3.out.trans (hb4.mono HB3.out.size), nrow_below HR3.out hb4, hfl, Nat.lt_of_lt_of_le HR3.out.lt hg0⟩
    have HT4 := Lib.hid (nrow_below HT3.out hb4)
    have HG1 : Hid (w.heap.size + 1 < g) := Nat.lt_of_lt_of_le HT3.out.lt hg0
    have HRF := Lib.hid hRF
    have HA := Lib.hid (And.intro hA1 (And.intro hA2 hA3))
    clear hb4 HB3 HR3 HT3 hfl hRF hA1 hA2 hA3 hg0 cn p0 p1 p2
    obtain ⟨⟨p0, p1, p2⟩, _⟩ := rowN3 HFW.out.row
    have hmk := run_make_row' (P := Tryz.prog) 56 4 (.bool false) 1 Tryz.underlying56 binfo rfl .i64 .i64 n.hn (by omega) (by omega)
    obtain ⟨gn, hgn⟩ : ∃ gn, gn = w4.heap.size := ⟨_, rfl⟩
    have hbk : BBlk w4.heap.size n.hn (fun _ => false) (w4.alloc (bmkO n.hn)) := World.rowIs_made w4 (.bool false) n.hn 4
    have cx := World.rowIs.cell hbk ht
    have zx := World.rowIs.frozen hbk t
    obtain ⟨W5, hW5'⟩ : ∃ W5, W5 = w4.alloc (.cells ((madeCells #[.bool false] n.hn).setIfInBounds t (.bool true)) 4) := ⟨_, rfl⟩
    have hW5 : W5 = (w4.alloc (bmkO n.hn)).setCell ⟨w4.heap.size, t, none⟩ (.bool true) := by rw [hW5', World.setCell_alloc_new]
    have HNR : Hid (NrS n la lk fa fk wa wk g fl gn (updB (fun _ => false) t true) w W5) := by
      rw [hW5, hgn]
      refine NrS.set ⟨HFW.out.below (nbel_alloc _ _), hbk, HFW.out.flow.lt⟩ t true
    have HT5 : Hid (W5.rowIs (w.heap.size + 1) 28 3 (rowN shZ)) := by
      show World.rowIs _ _ _ _ _
      rw [hW5]
      exact nrow_set (nrow_below HT4.out (nbel_alloc _ _)) (p := ⟨w4.heap.size, t, none⟩) (Nat.ne_of_lt HT4.out.lt) _
    have HW5 := Lib.hid hW5'
    have zn : w4.heap.size < (w4.alloc (bmkO n.hn)).heap.size := by simp
    clear hW5 hW5' hbk HT4 HFW
    go_wp2_with fail
    rw [← HW5.out, ← hgn]
    clear hmk p0 p1 p2 cx zx zn HW5 hgn
    go_loopw [7, 8, 9] (fun av _ _ wr => ∃ (ag : Bool) (u : Nat → Bool), av = .bool ag ∧ Hid (NrS n la lk fa fk wa wk g fl gn u w wr) ∧ Hid (wr.rowIs (w.heap.size + 1) 28 3 (rowN shZ)) ∧ Hid (u t = true) ∧ Hid (Fl.Lst n fl t u) ∧ Hid (ag = false → ∀ i, i < n.rn → Fl.Cl1 n fl u i)) (fun av _ _ wr => 2 * cntB gn n.hn wr + (match av with | .bool true => 1 | _ => 0))
    case atStart => exact ⟨true, _, rfl, HNR, HT5, by show updB _ t true t = true; unfold updB; rw [if_pos rfl], Fl.Lst.start n fl t, fun x => by cases x⟩
    case round =>
      obtain ⟨ag, u, rfl, hS, hT, hSelf, hLst, hCl⟩ := hrel
      clear HNR HT5
      cases ag with
      | false =>
        have HNE : Hid (Fl.NearR n fl t u) := Fl.near_of hSelf.out hLst.out (hCl.out rfl)
        obtain ⟨go, hgo⟩ : ∃ go, go = wr.heap.size := ⟨_, rfl⟩
        obtain ⟨W6, hW6⟩ : ∃ W6, W6 = wr.alloc (.cells #[.slice none 0 0, .int .i64 0, .int .i64 0] 28) := ⟨_, rfl⟩
        have HOU : Hid (OuS n la lk fa fk wa wk g fl gn u (w.heap.size + 1) go (.slice none 0 0) (Fl.abTo n u 0) w W6) := by
          have hb : Below wr.heap.size wr W6 := by rw [hW6]; exact nbel_alloc _ _
          exact ⟨hS.out.below hb, nrow_below hT.out hb, by rw [hW6, hgo]; exact rowN_alloc wr [.slice none 0 0, .int .i64 0, .int .i64 0] _, World.ownsRow_nil _ _ _ _, by have := World.rowIs.lt hS.out.blk; omega, HG1.out⟩
        have HW6 := Lib.hid hW6
        obtain ⟨i1, hi1, hy0, hy1, hy2⟩ := info_parts yinfo_i64
        have HPI := Lib.hid (And.intro hi1 (And.intro hy0 (And.intro hy1 hy2)))
        clear hi1 hy0 hy1 hy2
        clear hW6 hS hT hSelf hLst hCl
        go_wp2_with fail
        rw [← HW6.out, ← hgo]
        clear hgo HW6
        go_loopw [11] (fun iv wr => ∃ (i : Nat) (rv : Value), i ≤ n.rn ∧ iv = .int .i64 i ∧ Hid (OuS n la lk fa fk wa wk g fl gn u (w.heap.size + 1) go rv (Fl.abTo n u i) w wr)) (fun iv _ => n.rn - (intOf iv).toNat)
        case atStart => exact ⟨0, _, Nat.zero_le _, rfl, HOU⟩
        case round =>
          obtain ⟨i, rv, hi, rfl, hO⟩ := hrel
          clear HOU
          obtain ⟨⟨p0, p1, p2⟩, _⟩ := rowN3 hO.out.nr.base.row
          obtain ⟨⟨o0, o1, o2⟩, z0, z1, z2⟩ := rowN3 hO.out.out
          by_cases hlt : i < n.rn
          · have hltz : (i : Int) < (n.rn : Int) := by omega
            obtain ⟨b, e, c0, c1, c2⟩ := (H.out.below hO.out.nr.base.old).l.at3 hlt
            subst e
            rw [HRT.out.from_eq hlt] at c0
            rw [HRT.out.to_eq hlt] at c1
            have hvf := HRT.out.from_lt hlt
            have hvt := HRT.out.to_lt hlt
            have uf := World.rowIs.cell hO.out.nr.blk hvf
            have ut := World.rowIs.cell hO.out.nr.blk hvt
            have hab := Fl.abTo_in (n := n) (N := u) (i := i)
            have hab2 := Fl.abTo_out (n := n) (N := u) (i := i)
            generalize n.from_ i = vf at *
            generalize n.to_ i = vt at *
            have hvfz : (vf : Int) < (n.hn : Int) := by omega
            have hvtz : (vt : Int) < (n.hn : Int) := by omega
            have hll := Fl.abTo_len (n := n) (N := u) (i := i)
            have hgo := hO.out.out.lt
            cases huf : u vf with
            | true =>
              cases hut : u vt with
              | true =>
                rw [huf] at uf
                rw [hut] at ut
                have HAB : Hid (Fl.abTo n u (i + 1) = Fl.abTo n u i) := hab2 (by rw [huf, hut]; rfl)
                clear hab hab2 huf hut
                go_wp2_with fail
                go_quiet (fail)
                go_wp2_with fail
                go_roundw
                case rel => exact ⟨i + 1, rv, by omega, by go_num, by rw [HAB.out]; exact hO.out.below (ndrewN (Below.refl _ _) _)⟩
                case measure => simp [intOf]; omega
              | false =>
                rw [huf] at uf
                rw [hut] at ut
                have HAB : Hid (Fl.abTo n u (i + 1) = Fl.abTo n u i ++ [i]) := hab (by rw [huf, hut]; rfl)
                clear hab hab2 huf hut
                obtain ⟨hi1, hy0, hy1, hy2⟩ := HPI.out
                go_wp2_with fail
                go_quiet (fail)
                go_wp2_with (at_builtin; refine wpList_append_own_at _ rfl _ _ 23 rfl (go + 1) 2 i1 _ 1 8 Tryz.underlying23 hi1 hy0 hy1 hy2 rfl (by decide) _ _ _ rfl ((hO.out.below (ndrewN (Below.refl _ _) _)).own.alloc _) ⟨wr.heap.size, 0, none⟩ 1 1 [.int .i64 (i : Nat)] rfl rfl ?d1 ?d2 ?d3 ?d4 ?d5 ?_)
                case d1 =>
                  intro q x hq
                  match q, hq with
                  | 0, hq =>
                    simp at hq
                    subst hq
                    exact (rowN_alloc (wr.drewN _) [.int .i64 (i : Nat)] 2).cell (i := 0) (by simp)
                case d2 =>
                  intro x hx
                  simp at hx
                  subst hx
                  rfl
                case d3 => unfold maxLen; omega
                case d4 => omega
                case d5 => simp; omega
                intro v5 W5 hown hgrow hnil hat
                obtain ⟨ho5, hO6⟩ := hO.out.app hgrow hown
                obtain ⟨ad5, c5, e5, _⟩ := own_at hO6.own
                subst e5
                obtain ⟨⟨n0, n1, n2⟩, m0, m1, m2⟩ := rowN3 ho5
                have nl := ho5.lt
                obtain ⟨W6, hW6⟩ : ∃ W6, W6 = W5.setCell ⟨go, 0, none⟩ (.slice ad5 (Fl.abTo n u i ++ [i]).length c5) := ⟨_, rfl⟩
                have HO6 : Hid (OuS n (some ⟨b, 0, none⟩) lk fa fk wa wk g fl gn u (w.heap.size + 1) go (.slice ad5 (Fl.abTo n u i ++ [i]).length c5) (Fl.abTo n u (i + 1)) w W6) := by
                  show OuS _ _ _ _ _ _ _ _ _ _ _ _ _ _ _ _ _
                  rw [hW6, HAB.out]
                  exact hO6
                rw [List.length_append, List.length_singleton] at hW6
                have HW6 := Lib.hid hW6
                clear hW6 hown hgrow hnil hat ho5 hO6 hO p0 p1 p2 o0 o1 o2 z0 z1 z2 c0 c1 c2 uf ut
                go_wp2_with fail
                rw [← HW6.out]
                go_roundw
                case rel => exact ⟨i + 1, _, by omega, by go_num, HO6⟩
                case measure => simp [intOf]; omega
            | false =>
              cases hut : u vt with
              | true =>
                rw [huf] at uf
                rw [hut] at ut
                have HAB : Hid (Fl.abTo n u (i + 1) = Fl.abTo n u i ++ [i]) := hab (by rw [huf, hut]; rfl)
                clear hab hab2 huf hut
                obtain ⟨hi1, hy0, hy1, hy2⟩ := HPI.out
                go_wp2_with fail
                go_quiet (fail)
                go_wp2_with (at_builtin; refine wpList_append_own_at _ rfl _ _ 23 rfl (go + 1) 2 i1 _ 1 8 Tryz.underlying23 hi1 hy0 hy1 hy2 rfl (by decide) _ _ _ rfl ((hO.out.below (ndrewN (Below.refl _ _) _)).own.alloc _) ⟨wr.heap.size, 0, none⟩ 1 1 [.int .i64 (i : Nat)] rfl rfl ?d1 ?d2 ?d3 ?d4 ?d5 ?_)
                case d1 =>
                  intro q x hq
                  match q, hq with
                  | 0, hq =>
                    simp at hq
                    subst hq
                    exact (rowN_alloc (wr.drewN _) [.int .i64 (i : Nat)] 2).cell (i := 0) (by simp)
                case d2 =>
                  intro x hx
                  simp at hx
                  subst hx
                  rfl
                case d3 => unfold maxLen; omega
                case d4 => omega
                case d5 => simp; omega
                intro v5 W5 hown hgrow hnil hat
                obtain ⟨ho5, hO6⟩ := hO.out.app hgrow hown
                obtain ⟨ad5, c5, e5, _⟩ := own_at hO6.own
                subst e5
                obtain ⟨⟨n0, n1, n2⟩, m0, m1, m2⟩ := rowN3 ho5
                have nl := ho5.lt
                obtain ⟨W6, hW6⟩ : ∃ W6, W6 = W5.setCell ⟨go, 0, none⟩ (.slice ad5 (Fl.abTo n u i ++ [i]).length c5) := ⟨_, rfl⟩
                have HO6 : Hid (OuS n (some ⟨b, 0, none⟩) lk fa fk wa wk g fl gn u (w.heap.size + 1) go (.slice ad5 (Fl.abTo n u i ++ [i]).length c5) (Fl.abTo n u (i + 1)) w W6) := by
                  show OuS _ _ _ _ _ _ _ _ _ _ _ _ _ _ _ _ _
                  rw [hW6, HAB.out]
                  exact hO6
                rw [List.length_append, List.length_singleton] at hW6
                have HW6 := Lib.hid hW6
                clear hW6 hown hgrow hnil hat ho5 hO6 hO p0 p1 p2 o0 o1 o2 z0 z1 z2 c0 c1 c2 uf ut
                go_wp2_with fail
                rw [← HW6.out]
                go_roundw
                case rel => exact ⟨i + 1, _, by omega, by go_num, HO6⟩
                case measure => simp [intOf]; omega
              | false =>
                rw [huf] at uf
                rw [hut] at ut
                have HAB : Hid (Fl.abTo n u (i + 1) = Fl.abTo n u i) := hab2 (by rw [huf, hut]; rfl)
                clear hab hab2 huf hut
                go_wp2_with fail
                go_quiet (fail)
                go_wp2_with fail
                go_roundw
                case rel => exact ⟨i + 1, rv, by omega, by go_num, by rw [HAB.out]; exact hO.out.below (ndrewN (Below.refl _ _) _)⟩
                case measure => simp [intOf]; omega
          · obtain rfl : i = n.rn := by omega
            have HBEST : Hid (Fl.Best n t u) := Fl.NearR.best HRT.out HRF.out (by omega) ht (fun ⟨j, hj, e⟩ => HD.out (by have := Pl.Wet.src (p := n) (sh := Pl.Good n) j hj; rw [e] at this; simpa using this)) HNE.out HA.out.1 HA.out.2.1 HA.out.2.2
            have HE1 := Lib.hid (Fl.lcode_ok HRT.out ht HD.out)
            have HE2 : Hid (Fl.lrows n (t : Int) = Fl.abTo n u n.rn) := Fl.lrows_ok HRT.out ht HE1.out HBEST.out
            have HE3 : Hid (Fl.lhomes n (t : Int) = Pl.homes n (Fl.abTo n u n.rn).length (fun j => (((Fl.abTo n u n.rn).getD j 0 : Nat) : Int))) := by
              show _ = _
              unfold Fl.lhomes
              rw [dB_tt HE1.out, HE2.out]; rfl
            obtain ⟨ra, rc, e, hat⟩ := own_at hO.out.own
            subst e
            have hll := Fl.abTo_len (n := n) (N := u) (i := n.rn)
            have HAT := Lib.hid hat
            clear hat
            go_wp2_with fail
            refine (specHomes_any n la lk fa fk wa wk ra _ rc _ _ (H.out.below hO.out.nr.base.old) HS.out HAT.out (by omega)).mono ?_
            rintro e w7 ⟨rfl, hb⟩
            have HO7 := Lib.hid (hO.out.below hb)
            clear hb hO p0 p1 p2 o0 o1 o2 z0 z1 z2
            obtain ⟨⟨o0, o1, o2⟩, z0, z1, z2⟩ := rowN3 HO7.out.out
            obtain ⟨⟨q0, q1, q2⟩, y0, y1, y2⟩ := rowN3 HO7.out.ret
            have l1 := HO7.out.out.lt
            have l2 := HO7.out.ret.lt
            have l3 := HO7.out.lo
            have l4 := HO7.out.l2
            have l5 := HO7.out.nr.lo
            have hng : ¬ w.heap.size + 1 = go := by omega
            have hng2 : ¬ go = w.heap.size + 1 := by omega
            rw [← HE3.out]
            go_wp2_with fail
            refine bodyPost_ret (v := .agg #[.slice ra (Fl.abTo n u n.rn).length rc, .int .i64 (Fl.lhomes n (t : Int)), .int .i64 0]) (by simp [results, Tryz.results7, go_sem, q0, q1, q2]) rfl ⟨⟨.slice ra (Fl.abTo n u n.rn).length rc, by rw [HE1.out], ?_⟩, ?_⟩
            · rw [HE2.out]
              refine own_low (B := go + 1) ?_ (by omega)
              exact own_set (own_set (own_set (own_set HO7.out.own (p := ⟨go, 1, none⟩) (by show go < go + 1; omega) _) (p := ⟨w.heap.size + 1, 0, none⟩) (by show w.heap.size + 1 < go + 1; omega) _) (p := ⟨w.heap.size + 1, 1, none⟩) (by show w.heap.size + 1 < go + 1; omega) _) (p := ⟨w.heap.size + 1, 2, none⟩) (by show w.heap.size + 1 < go + 1; omega) _
            · exact pset3 (HO7.out.nr.base.old.setCell (p := ⟨go, 1, none⟩) (by show w.heap.size ≤ go; omega) _) (by omega)
      | true =>
        have HCB0 := Lib.hid (cntB_eq hS.out.blk)
        clear hCl
        go_wp2_with fail
        go_loopw [7, 8, 9] (fun av iv _ wr => ∃ (i : Nat) (ag : Bool) (u2 : Nat → Bool), i ≤ n.rn ∧ iv = .int .i64 i ∧ av = .bool ag ∧ Hid (NrS n la lk fa fk wa wk g fl gn u2 w wr) ∧ Hid (wr.rowIs (w.heap.size + 1) 28 3 (rowN shZ)) ∧ Hid (u2 t = true) ∧ Hid (Fl.Lst n fl t u2) ∧ Hid (∀ v, v < n.hn → u v = true → u2 v = true) ∧ Hid (ag = false → ∀ i', i' < i → Fl.Cl1 n fl u2 i') ∧ Hid (ag = true → cntN (uI u2) n.hn < cntN (uI u) n.hn)) (fun _ iv _ _ => n.rn - (intOf iv).toNat)
        case atStart => exact ⟨0, false, u, Nat.zero_le _, rfl, rfl, hS, hT, hSelf, hLst, fun _ _ x => x, fun _ i' hi' => absurd hi' (by omega), fun x => by cases x⟩
        case round =>
          obtain ⟨i, ag, u2, hi, rfl, rfl, hS2, hT2, hSelf2, hLst2, hMono, hCl, hLess⟩ := hrel
          obtain ⟨⟨p0, p1, p2⟩, _⟩ := rowN3 hS2.out.base.row
          by_cases hlt : i < n.rn
          · have hltz : (i : Int) < (n.rn : Int) := by omega
            obtain ⟨b, e, c0, c1, c2⟩ := (H.out.below hS2.out.base.old).l.at3 hlt
            subst e
            rw [HRT.out.from_eq hlt] at c0
            rw [HRT.out.to_eq hlt] at c1
            have hvf := HRT.out.from_lt hlt
            have hvt := HRT.out.to_lt hlt
            obtain ⟨vf, hvfe⟩ : ∃ vf, vf = n.from_ i := ⟨_, rfl⟩
            obtain ⟨vt, hvte⟩ : ∃ vt, vt = n.to_ i := ⟨_, rfl⟩
            rw [← hvfe] at c0 hvf
            rw [← hvte] at c1 hvt
            have HVF := Lib.hid hvfe
            have HVT := Lib.hid hvte
            have hvfz : (vf : Int) < (n.hn : Int) := by omega
            have hvtz : (vt : Int) < (n.hn : Int) := by omega
            have zb : b < wr.heap.size := World.block_lt_of_cell? _ _ c0
            obtain ⟨W1, hW1⟩ : ∃ W1, W1 = wr.alloc (.cells #[.int .i64 (vf : Nat), .int .i64 (vt : Nat), .int .i64 (n.R (i * 3 + 2))] 61) := ⟨_, rfl⟩
            have hb1 : Below wr.heap.size wr W1 := by rw [hW1]; exact nbel_alloc _ _
            have HS3 := Lib.hid (hS2.out.below hb1)
            have HT3 := Lib.hid (nrow_below hT2.out hb1)
            have HR3 : Hid (W1.rowIs wr.heap.size 61 3 (rowN [.int .i64 (vf : Nat), .int .i64 (vt : Nat), .int .i64 (n.R (i * 3 + 2))])) := by show World.rowIs _ _ _ _ _; rw [hW1]; exact rowN_alloc _ _ _
            have HW1 := Lib.hid hW1
            have HNEG : Hid (gn < wr.heap.size) := World.rowIs.lt hS2.out.blk
            have hfb := HRF.out.low i hlt
            have uf := World.rowIs.cell HS3.out.blk hvf
            have ut := World.rowIs.cell HS3.out.blk hvt
            have hvne : ¬ vf = vt := by have := HRT.out.ne hlt; rw [← HVF.out, ← HVT.out] at this; exact this
            have hvne2 : ¬ vt = vf := fun e => hvne e.symm
            obtain ⟨⟨y0, y1, y2⟩, _⟩ := rowN3 HS3.out.base.row
            have HROOM : Hid (∀ a b, Fl.roomR n fl i a b → (a = vf ∧ b = vt ∧ 0 < Fl.left n fl i (vf : Int)) ∨ (a = vt ∧ b = vf ∧ 0 < Fl.left n fl i (vt : Int))) := fun a b hR => by
              have h1 := Fl.oth_room HRT.out hlt hR
              have h2 := HVF.out
              have h3 := HVT.out
              rcases hR with ⟨a1, a2, a3⟩ | ⟨a1, a2, a3⟩
              · left; refine ⟨by omega, by omega, ?_⟩
                rw [show vf = a by omega]; exact h1.2
              · right; refine ⟨by omega, by omega, ?_⟩
                rw [show vt = a by omega]; exact h1.2
            rw [hW1] at uf ut y0 y1 y2
            clear hvfe hvte hb1 hW1 hS2 hT2
            cases hbt : u2 vt with
            | true =>
              cases hbf : u2 vf with
              | true =>
                rw [hbt] at ut
                rw [hbf] at uf
                have HCL2 : Hid (ag = false → ∀ i', i' < i + 1 → Fl.Cl1 n fl u2 i') := fun hag i' hi' => by
                  by_cases e : i' = i
                  · subst e
                    intro a b hR hb
                    rcases HROOM.out a b hR with ⟨e1, e2, _⟩ | ⟨e1, e2, _⟩
                    · subst e1; subst e2; rw [hbt] at hb; exact hbf
                    · subst e1; subst e2; rw [hbf] at hb; exact hbt
                  · exact hCl.out hag i' (by omega)
                clear hbt hbf hCl
                go_wp2_with fail
                rw [← HW1.out]
                go_roundw
                case rel => exact ⟨i + 1, ag, u2, by omega, by go_num, rfl, HS3, HT3, hSelf2, hLst2, hMono, HCL2, hLess⟩
                case measure => simp [intOf]; omega
              | false =>
                rw [hbt] at ut
                rw [hbf] at uf
                go_wp2_with fail
                rw [← HW1.out]
                refine (sroom_any n _ lk fa fk wa wk g n.rn fl i (vf : Int) _ (H.out.below HS3.out.base.old) HS3.out.base.flow.at_ hlt (by omega) (by omega)).mono ?_
                rintro e w6 ⟨rfl, hb⟩
                have HS6 := Lib.hid (HS3.out.below hb)
                have HT6 := Lib.hid (nrow_below HT3.out hb)
                have HR6 := Lib.hid (nrow_below HR3.out hb)
                clear hb HS3 HT3 HR3 HW1 uf ut y0 y1 y2 c0 c1 c2 p0 p1 p2
                obtain ⟨⟨x0, x1, x2⟩, _⟩ := rowN3 HR6.out
                have uf := World.rowIs.cell HS6.out.blk hvf
                have ut := World.rowIs.cell HS6.out.blk hvt
                rw [hbt] at ut
                rw [hbf] at uf
                by_cases cr : 0 < Fl.left n fl i (vf : Int)
                case neg =>
                  have dcr : decide (0 < Fl.left n fl i (vf : Int)) = false := by simp [cr]
                  have HCL2 : Hid (ag = false → ∀ i', i' < i + 1 → Fl.Cl1 n fl u2 i') := fun hag i' hi' => by
                    by_cases e : i' = i
                    · subst e
                      intro a b hR hb
                      rcases HROOM.out a b hR with ⟨e1, e2, e3⟩ | ⟨e1, e2, e3⟩
                      · exact absurd e3 cr
                      · subst e1; exact hbt
                    · exact hCl.out hag i' (by omega)
                  clear hbt hbf hCl cr
                  go_wp2_with fail
                  go_roundw
                  case rel => exact ⟨i + 1, ag, u2, by omega, by go_num, rfl, HS6, HT6, hSelf2, hLst2, hMono, HCL2, hLess⟩
                  case measure => simp [intOf]; omega
                have dcr : decide (0 < Fl.left n fl i (vf : Int)) = true := by simp [cr]
                have hng : ¬ wr.heap.size = gn := by have := HNEG.out; omega
                have zf := World.rowIs.frozen HS6.out.blk vf
                have zt := World.rowIs.frozen HS6.out.blk vt
                have zg := World.rowIs.lt HS6.out.blk
                obtain ⟨W7, hW7⟩ : ∃ W7, W7 = w6.setCell ⟨gn, vf, none⟩ (.bool true) := ⟨_, rfl⟩
                have HS7 : Hid (NrS n (some ⟨b, 0, none⟩) lk fa fk wa wk g fl gn (updB u2 vf true) w W7) := by rw [hW7]; exact HS6.out.set vf true
                have HT7 : Hid (W7.rowIs (w.heap.size + 1) 28 3 (rowN shZ)) := by
                  have h1 := HS6.out.lo
                  have h2 := HG1.out
                  show World.rowIs _ _ _ _ _
                  rw [hW7]
                  exact nrow_set HT6.out (p := ⟨gn, vf, none⟩) (by show w.heap.size + 1 ≠ gn; omega) _
                have HSE7 : Hid (updB u2 vf true t = true) := by
                  show _ = _
                  unfold updB
                  split
                  · rfl
                  · exact hSelf2.out
                have HLS7 : Hid (Fl.Lst n fl t (updB u2 vf true)) := hLst2.out.put hvf hvt ⟨i, hlt, Fl.room_oth HRT.out hlt (by
                  have e1 := HRT.out.from_eq hlt
                  have e2 := HRT.out.to_eq hlt
                  rw [← HVF.out] at e1
                  rw [← HVT.out] at e2
                  unfold Pl.oth
                  rw [e1, e2]
                  rw [if_pos rfl]) cr⟩ hbt
                have HM7 : Hid (∀ v, v < n.hn → u v = true → updB u2 vf true v = true) := fun v hv hu => by
                  unfold updB
                  split
                  · rfl
                  · exact hMono.out v hv hu
                have HLE7 : Hid (cntN (uI (updB u2 vf true)) n.hn < cntN (uI u) n.hn) := by
                  refine cntN_less (k := vf) (fun v hv e => ?_) hvf ?_ ?_
                  · unfold uI at e ⊢
                    by_cases hu : u v = true
                    · rw [if_pos (HM7.out v hv hu)] at e; omega
                    · rw [if_neg hu]
                  · unfold uI
                    have : ¬ u vf = true := fun z => by have := hMono.out vf hvf z; rw [hbf] at this; cases this
                    rw [if_neg this]
                  · unfold uI updB
                    simp
                have HW7 := Lib.hid hW7
                clear hW7 hbt hbf hCl cr hLess
                go_wp2_with fail
                rw [← HW7.out]
                go_roundw
                case rel => exact ⟨i + 1, true, _, by omega, by go_num, rfl, HS7, HT7, HSE7, HLS7, HM7, (fun z => by cases z), fun _ => HLE7.out⟩
                case measure => simp [intOf]; omega
            | false =>
              cases hbf : u2 vf with
              | true =>
                rw [hbt] at ut
                rw [hbf] at uf
                go_wp2_with fail
                rw [← HW1.out]
                refine (sroom_any n _ lk fa fk wa wk g n.rn fl i (vt : Int) _ (H.out.below HS3.out.base.old) HS3.out.base.flow.at_ hlt (by omega) (by omega)).mono ?_
                rintro e w6 ⟨rfl, hb⟩
                have HS6 := Lib.hid (HS3.out.below hb)
                have HT6 := Lib.hid (nrow_below HT3.out hb)
                have HR6 := Lib.hid (nrow_below HR3.out hb)
                clear hb HS3 HT3 HR3 HW1 uf ut y0 y1 y2 c0 c1 c2 p0 p1 p2
                obtain ⟨⟨x0, x1, x2⟩, _⟩ := rowN3 HR6.out
                have uf := World.rowIs.cell HS6.out.blk hvf
                have ut := World.rowIs.cell HS6.out.blk hvt
                rw [hbt] at ut
                rw [hbf] at uf
                by_cases cr : 0 < Fl.left n fl i (vt : Int)
                case neg =>
                  have dcr : decide (0 < Fl.left n fl i (vt : Int)) = false := by simp [cr]
                  have HCL2 : Hid (ag = false → ∀ i', i' < i + 1 → Fl.Cl1 n fl u2 i') := fun hag i' hi' => by
                    by_cases e : i' = i
                    · subst e
                      intro a b hR hb
                      rcases HROOM.out a b hR with ⟨e1, e2, e3⟩ | ⟨e1, e2, e3⟩
                      · subst e1; exact hbf
                      · exact absurd e3 cr
                    · exact hCl.out hag i' (by omega)
                  clear hbt hbf hCl cr
                  go_wp2_with fail
                  go_roundw
                  case rel => exact ⟨i + 1, ag, u2, by omega, by go_num, rfl, HS6, HT6, hSelf2, hLst2, hMono, HCL2, hLess⟩
                  case measure => simp [intOf]; omega
                have dcr : decide (0 < Fl.left n fl i (vt : Int)) = true := by simp [cr]
                have hng : ¬ wr.heap.size = gn := by have := HNEG.out; omega
                have zf := World.rowIs.frozen HS6.out.blk vf
                have zt := World.rowIs.frozen HS6.out.blk vt
                have zg := World.rowIs.lt HS6.out.blk
                obtain ⟨W7, hW7⟩ : ∃ W7, W7 = w6.setCell ⟨gn, vt, none⟩ (.bool true) := ⟨_, rfl⟩
                have HS7 : Hid (NrS n (some ⟨b, 0, none⟩) lk fa fk wa wk g fl gn (updB u2 vt true) w W7) := by rw [hW7]; exact HS6.out.set vt true
                have HT7 : Hid (W7.rowIs (w.heap.size + 1) 28 3 (rowN shZ)) := by
                  have h1 := HS6.out.lo
                  have h2 := HG1.out
                  show World.rowIs _ _ _ _ _
                  rw [hW7]
                  exact nrow_set HT6.out (p := ⟨gn, vt, none⟩) (by show w.heap.size + 1 ≠ gn; omega) _
                have HSE7 : Hid (updB u2 vt true t = true) := by
                  show _ = _
                  unfold updB
                  split
                  · rfl
                  · exact hSelf2.out
                have HLS7 : Hid (Fl.Lst n fl t (updB u2 vt true)) := hLst2.out.put hvt hvf ⟨i, hlt, Fl.room_oth HRT.out hlt (by
                  have e1 := HRT.out.from_eq hlt
                  have e2 := HRT.out.to_eq hlt
                  rw [← HVF.out] at e1
                  rw [← HVT.out] at e2
                  unfold Pl.oth
                  rw [e1, e2]
                  rw [if_neg (by omega), if_pos rfl]) cr⟩ hbf
                have HM7 : Hid (∀ v, v < n.hn → u v = true → updB u2 vt true v = true) := fun v hv hu => by
                  unfold updB
                  split
                  · rfl
                  · exact hMono.out v hv hu
                have HLE7 : Hid (cntN (uI (updB u2 vt true)) n.hn < cntN (uI u) n.hn) := by
                  refine cntN_less (k := vt) (fun v hv e => ?_) hvt ?_ ?_
                  · unfold uI at e ⊢
                    by_cases hu : u v = true
                    · rw [if_pos (HM7.out v hv hu)] at e; omega
                    · rw [if_neg hu]
                  · unfold uI
                    have : ¬ u vt = true := fun z => by have := hMono.out vt hvt z; rw [hbt] at this; cases this
                    rw [if_neg this]
                  · unfold uI updB
                    simp
                have HW7 := Lib.hid hW7
                clear hW7 hbt hbf hCl cr hLess
                go_wp2_with fail
                rw [← HW7.out]
                go_roundw
                case rel => exact ⟨i + 1, true, _, by omega, by go_num, rfl, HS7, HT7, HSE7, HLS7, HM7, (fun z => by cases z), fun _ => HLE7.out⟩
                case measure => simp [intOf]; omega
              | false =>
                rw [hbt] at ut
                rw [hbf] at uf
                have HCL2 : Hid (ag = false → ∀ i', i' < i + 1 → Fl.Cl1 n fl u2 i') := fun hag i' hi' => by
                  by_cases e : i' = i
                  · subst e
                    intro a b hR hb
                    rcases HROOM.out a b hR with ⟨e1, e2, _⟩ | ⟨e1, e2, _⟩
                    · subst e1; subst e2; rw [hbt] at hb; cases hb
                    · subst e1; subst e2; rw [hbf] at hb; cases hb
                  · exact hCl.out hag i' (by omega)
                clear hbt hbf hCl
                go_wp2_with fail
                rw [← HW1.out]
                go_roundw
                case rel => exact ⟨i + 1, ag, u2, by omega, by go_num, rfl, HS3, HT3, hSelf2, hLst2, hMono, HCL2, hLess⟩
                case measure => simp [intOf]; omega
          · obtain rfl : i = n.rn := by omega
            have HCB1 := Lib.hid (cntB_eq hS2.out.blk)
            have HLE : Hid (cntN (uI u2) n.hn ≤ cntN (uI u) n.hn) := cntN_mono (fun v hv e => by
              unfold uI at e ⊢
              by_cases hu : u v = true
              · rw [if_pos (hMono.out v hv hu)] at e; omega
              · rw [if_neg hu])
            go_wp2_with fail
            go_roundw
            case rel => exact ⟨ag, u2, rfl, hS2, hT2, hSelf2, hLst2, hCl⟩
            case measure =>
              have h1 := HCB0.out
              have h2 := HCB1.out
              have h3 := HLE.out
              cases ag with
              | true =>
                have h4 := hLess.out rfl
                simp
                rw [h1, h2]
                omega
              | false =>
                simp
                rw [h1, h2]
                omega
end Go.Proofs.YtipmjobhegpdgaaGreatDoor
