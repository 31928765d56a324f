/-
  The program's LeastShut and its law.
-/
import Derived.Test.YtipmjobhegpdgaaGreatDoorPlH1
import Derived.Test.YtipmjobhegpdgaaGreatDoorSortI
import Derived.Sort.OwnSortedInts
import Derived.Deep.QuietTactic
import Derived.Test.YtipmjobhegpdgaaGreatDoorPlD1
import Derived.Test.YtipmjobhegpdgaaGreatDoorPlF5
import Derived.Test.YtipmjobhegpdgaaGreatDoorPlD9
import Derived.Test.YtipmjobhegpdgaaGreatDoorWkErr
import Derived.Test.YtipmjobhegpdgaaGreatDoorPlLawR
namespace Go.Proofs.YtipmjobhegpdgaaGreatDoor
open Go Go.RowKit Go.Deep

theorem psort_any (v : Value) (l : List Nat) (B : Nat) (w : World) (h : w.ownsRow B 2 1 v l.length (numsV l)) (hl : l.length ≤ 1000) :
    Calls Tryz.prog 100 #[v] w fun e w' => e = .returned (.tuple #[]) ∧ (∀ ts : List Nat, (l.map (fun i : Nat => (i : Int))).mergeSort (fun x y => decide (x ≤ y)) = ts.map (fun i : Nat => (i : Int)) → w'.ownsRow B 2 1 v l.length (numsV ts)) ∧ w.grownBy w' v.ownBlock := by
  rcases h.2 with ⟨rfl, h0⟩ | ⟨g, cap, cur, rfl, e2, e3, e4, e5, e6, e7⟩
  · refine (AnyM.slices_Sort_int_none Tryz.sortI none 0 w).mono ?_
    rintro e w' ⟨rfl, rfl⟩
    refine ⟨rfl, fun ts hts => ?_, ⟨rfl, rfl, rfl, Nat.le_refl _, fun _ _ _ => rfl⟩⟩
    obtain rfl : l = [] := List.eq_nil_of_length_eq_zero h0
    have : ts = [] := by
      have := congrArg List.length hts
      simp at this
      exact List.eq_nil_of_length_eq_zero this.symm
    subst this
    exact h
  · have hm : l.length = (l.map (fun i : Nat => (i : Int))).length := by simp
    have ht : cur.toList.take (l.map (fun i : Nat => (i : Int))).length = (l.map (fun i : Nat => (i : Int))).map (Value.int .i64) := by
      rw [← hm]
      rw [Nat.mul_one] at e7
      rw [e7]
      simp [numsV]
    have hH := holds_of_blockI e3 ht
    have hc := AnyM.slices_Sort_int Tryz.sortI g 0 cap (l.map (fun i : Nat => (i : Int))) w hH (Array.getElem?_eq_some_iff.1 e3).1 (by rw [← hm]; omega)
    rw [← hm] at hc
    refine hc.mono ?_
    rintro e w' ⟨rfl, n, os, rfl⟩
    refine ⟨rfl, fun ts hts => ?_, grownBy_sortedI _⟩
    rw [hts]
    have hlt : (ts.map (fun i : Nat => (i : Int))).length = (l.map (fun i : Nat => (i : Int))).length := by rw [← hts, List.length_mergeSort]
    have k := ownsRow_sortedI (n := n) (os := os) (cap := cap) hlt e2 e3 (by rw [← hm]; exact e4) e5 e6
    rw [← hm] at k
    have e8 : (ts.map (fun i : Nat => (i : Int))).map (Value.int .i64) = numsV ts := by simp [numsV]
    rw [e8] at k
    exact k
theorem dyown2 {B n s : Nat} {t : TypeId} {v : Value} {xs : List Value} {W W' : World} (h : W.ownsRow B t s v n xs) (hb : Below W.heap.size W W') : W'.ownsRow B t s v n xs := d_far' h (fun k _ hl => hb.block k hl)
theorem bu_good (a : Option Addr) (k c : Nat) (h : Bool) (d : Int) (w : World) : (Instr.field 115 (.agg #[.slice a k c, .bool h, .int .i64 d]) 0).run Tryz.prog w = .ok (.slice a k c) w := by kernel_rfl
/-- What stands from bundle to bundle. -/
structure ArS (p : Pl.Plan) (sh : Nat → Prop) (nx f : Nat → Int) (i : Nat) (rv : Value) (w1 W : World) : Prop where
  own : W.ownsRow w1.heap.size 2 1 rv (gath p sh nx f i).length (numsV (gath p sh nx f i))
  old : Below w1.heap.size w1 W
theorem gath_len {p : Pl.Plan} {sh : Nat → Prop} {nx f : Nat → Int} {c : Nat} (hf : ∀ i i', i < c → i' < c → (f (i * 2), f (i * 2 + 1)) = (f (i' * 2), f (i' * 2 + 1)) → i = i') {k : Nat} (hk : k ≤ c) : (gath p sh nx f k).length ≤ p.rn := nodup_len (gath_nodup hf k hk) (fun j hj => by
  obtain ⟨i, _, _, h⟩ := (gath_mem k).1 hj
  exact (goodL_mem.1 h).1)
set_option maxRecDepth 100000 in
set_option maxHeartbeats 4000000 in
theorem around_any {p : Pl.Plan} {sh : Nat → Prop} {b cnt : Nat} {kf : Nat → Int × Int} {gv : Nat → Value} {fl : Nat → Int} {B : Nat} (hr : Pl.Right p) (hs : ∀ i, ¬ sh i) (g : Nat) (nx : Nat → Int) (w : World) (h : LayF p sh b cnt kf gv fl B w) (hg : IsBlk 2 g p.hn nx w) (hcn : cnt ≤ 1000)
    (hheld : ∀ a c, a < p.hn → c < p.hn → Fl.hh p a c → ((nx a != -1) = (nx c != -1))) :
    Calls Tryz.prog 85 #[.map (some b), .slice (some ⟨g, 0, none⟩) p.hn p.hn] w fun e w' => (∃ v, e = .returned v ∧ w'.ownsRow w.heap.size 2 1 v (Fl.about p (fun v => nx v != -1)).length (numsV (Fl.about p (fun v => nx v != -1)))) ∧ Below w.heap.size w w' := by
  obtain ⟨i0, hi0, hz0, hz1, hz2⟩ := info_parts yinfo_i64
  have HPI := Lib.hid (And.intro hi0 (And.intro hz0 (And.intro hz1 hz2)))
  have hko := h.keys hr
  have hinj := h.map.inj
  have HALL : Hid (∀ i, i < p.rn → ∃ j, j < cnt ∧ kf j = Pl.key p i) := fun i hi => h.all i hi (hs i)
  have HKO := Lib.hid hko
  have HINJ := Lib.hid hinj
  have H := Lib.hid h
  have HG := Lib.hid hg
  have HHE := Lib.hid hheld
  clear hi0 hz0 hz1 hz2 hko hinj h hg hheld
  go_enter Tryz.func85, Tryz.ntmps85
  go_wp2_with fail
  refine (sorted_any b cnt kf _ _ H.out.map hcn).mono ?_
  rintro e w1 ⟨⟨gk, ck, f, rfl, hgk, hf, hf1, hf2⟩, hb1⟩
  have HF := Lib.hid hf
  have HF1 := Lib.hid hf1
  have HF2 := Lib.hid hf2
  have HFI := Lib.hid (key_seq_inj HINJ.out hf2)
  have HB1 := Lib.hid hb1
  have HL1 := Lib.hid (H.out.below hb1)
  have HG1 := Lib.hid (HG.out.below hb1)
  clear hf hf1 hf2 hb1 H HG hgk
  have HS0 : Hid (ArS p sh nx f 0 (.slice none 0 0) w1 w1) := ⟨World.ownsRow_nil _ _ _ _, Below.refl _ _⟩
  go_wp2_with fail
  go_loopw [5, 11] (fun rv iv wr => ∃ (i : Nat) (ra : Option Addr) (rn rc : Nat), i ≤ cnt ∧ iv = .int .i64 i ∧ rv = .slice ra rn rc ∧ Hid (ArS p sh nx f i (.slice ra rn rc) w1 wr)) (fun _ iv _ => cnt - (intOf iv).toNat)
  case atStart => exact ⟨0, none, 0, 0, Nat.zero_le _, rfl, rfl, HS0⟩
  case round =>
    clear HS0
    obtain ⟨i, ra, rn, rc, hi, rfl, rfl, hS⟩ := hrel
    by_cases hlt : i < cnt
    · have hltz : (i : Int) < (cnt : Int) := by omega
      obtain ⟨bk, ebk, k0, k1⟩ := (HF.out.below hS.out.old).at2 hlt
      cases ebk
      obtain ⟨j, hj, hkj⟩ := HF1.out i hlt
      have hkb := HKO.out j hj
      rw [hkj] at hkb
      obtain ⟨l, hl⟩ : ∃ l : Nat, f (i * 2) = (l : Int) := ⟨(f (i * 2)).toNat, by have := hkb.1; simp only at this; omega⟩
      obtain ⟨q, hq⟩ : ∃ q : Nat, f (i * 2 + 1) = (q : Int) := ⟨(f (i * 2 + 1)).toNat, by have := hkb; simp only at this; omega⟩
      have hlq : l < p.hn ∧ q < p.hn := by simp only at hkb; omega
      have HGA : Hid (gath p sh nx f (i + 1) = gath p sh nx f i ++ (if ((nx l == -1) != (nx q == -1)) = true then Pl.goodL p sh p.rn (kf j) else [])) := by
        show _ = _
        simp only [gath]
        rw [hl, hq, Int.toNat_natCast, Int.toNat_natCast, hkj, hl, hq]
      have HKJ : Hid (kf j = ((l : Int), (q : Int))) := by show _ = _; rw [hkj, hl, hq]
      rw [hl] at k0
      rw [hq] at k1
      have n0 := (HG1.out.below hS.out.old).cell hlq.1
      have n1 := (HG1.out.below hS.out.old).cell hlq.2
      have hlz : (l : Int) < (p.hn : Int) ∧ (q : Int) < (p.hn : Int) := by omega
      have HGL : Hid ((gath p sh nx f (i + 1)).length ≤ p.rn) := gath_len HFI.out (by omega)
      have hrn := hr.r
      clear hkj hkb hl hq
      by_cases cx : ((nx l == -1) != (nx q == -1)) = true
      · rw [if_pos cx] at HGA
        obtain ⟨gq, gc, hgj⟩ : ∃ gq gc, gv j = .slice (some ⟨gq, 0, none⟩) (Pl.goodL p sh p.rn (kf j)).length gc := by
          have hne : Pl.goodL p sh p.rn (kf j) ≠ [] := by
            obtain ⟨r, hrr, hsr, er⟩ := HL1.out.each j hj
            by_cases hgd : Pl.gd p r
            · intro e
              have : r ∈ Pl.goodL p sh p.rn (kf j) := goodL_mem.2 ⟨hrr, hsr, er.symm, hgd⟩
              rw [e] at this; cases this
            · exfalso
              have hk2 := er.symm.trans HKJ.out
              have hb := (Fl.key_btw hr hrr l q).1 (by
                rw [hk2]
                have hko := HKO.out j hj
                rw [HKJ.out] at hko
                simp only at hko
                unfold Pl.lo Pl.hi
                rw [if_pos (by omega), if_pos (by omega)])
              have := HHE.out l q hlq.1 hlq.2 ⟨r, hrr, hb, hgd⟩
              simp only [bne] at this cx
              cases h1 : (nx l == -1) <;> cases h2 : (nx q == -1) <;> rw [h1, h2] at this cx <;> simp at this cx
          rcases (HL1.out.own j hj).2 with e | ⟨g, c, _, e, _⟩
          · exact absurd (List.eq_nil_of_length_eq_zero e.2) hne
          · exact ⟨g, c, e⟩
        obtain ⟨W2, hW2⟩ : ∃ W2, W2 = wr.alloc (.cells #[.int .i64 l, .int .i64 q] 112) := ⟨_, rfl⟩
        have hb2 : Below wr.heap.size wr W2 := by rw [hW2]; exact nbel_alloc _ _
        have hbW : Below w1.heap.size w1 W2 := hS.out.old.trans (hb2.mono hS.out.old.size)
        have HO2 := Lib.hid (dyown2 hS.out.own hb2)
        have HLW := Lib.hid (HL1.out.below hbW)
        obtain ⟨hh, hhh⟩ : ∃ hh, hh = Pl.heldB p sh p.rn (kf j) := ⟨_, rfl⟩
        obtain ⟨fj, hfj⟩ : ∃ fj, fj = fl j := ⟨_, rfl⟩
        obtain ⟨m, hm⟩ : ∃ m, m = (Pl.goodL p sh p.rn (kf j)).length := ⟨_, rfl⟩
        have hlk0 := HLW.out.map.look_hit hj
        have hlk : ∀ nq, (Instr.lookup 79 (.map (some b)) (.agg #[.int .i64 l, .int .i64 q]) false).run Tryz.prog ((wr.alloc (.cells #[.int .i64 l, .int .i64 q] 112)).drewN nq) = .ok (.agg #[.slice (some ⟨gq, 0, none⟩) m gc, .bool hh, .int .i64 fj]) ((wr.alloc (.cells #[.int .i64 l, .int .i64 q] 112)).drewN nq) := fun nq => by
          have k := (HLW.out.below (ndrewN (Below.refl _ _) nq)).map.look_hit hj
          rw [HKJ.out, ← HKJ.out, ← hhh, ← hfj, hgj, ← hm, HKJ.out, hW2] at k
          exact k
        have zg : g < wr.heap.size := World.block_lt_of_cell? _ _ n0
        have HGV : Hid (∀ s x, (numsV (Pl.goodL p sh p.rn (kf j)))[s]? = some x → ∀ nq, ((wr.alloc (.cells #[.int .i64 l, .int .i64 q] 112)).drewN nq).cell? ((⟨gq, 0, none⟩ : Addr).add s) = some x) := fun s x hx nq => by
          have k := (HLW.out.below (ndrewN (Below.refl _ _) nq)).own j hj
          rw [hgj] at k
          rw [← hW2]
          exact k.cells rfl s x hx
        have HM := Lib.hid hm
        have HBW := Lib.hid hbW
        have HW2 := Lib.hid hW2
        have HML : Hid (m ≤ 100) := by show m ≤ 100; rw [hm]; have := Pl.goodL_len (p := p) (sh := sh) (k := p.rn) (κ := kf j); omega
        have HRNL : Hid (rn = (gath p sh nx f i).length ∧ (gath p sh nx f i).length ≤ 100) := by
          have h1 : (gath p sh nx f i).length ≤ p.rn := gath_len HFI.out (by omega)
          rcases hS.out.own.2 with e | ⟨g, c, _, e, _⟩
          · have := e.1; injection this with _ e2 _; exact ⟨by omega, by omega⟩
          · injection e with _ e2 _; exact ⟨e2, by omega⟩
        clear hW2 hb2 hbW hhh hfj hm hlk0 hgj
        go_wp2_with fail
        go_quiet (fail)
        have cx' : (!((nx l == -1) == (nx q == -1))) = true := cx
        rw [cx']
        obtain ⟨hi0, hz0, hz1, hz2⟩ := HPI.out
        have hlk1 := hlk nq
        have hoq : ((wr.alloc (.cells #[.int .i64 l, .int .i64 q] 112)).drewN nq).ownsRow w1.heap.size 2 1 (.slice ra rn rc) (gath p sh nx f i).length (numsV (gath p sh nx f i)) := by
          rw [← HW2.out]; exact dyown2 HO2.out (ndrewN (Below.refl _ _) nq)
        have hcq := HGV.out
        have hml := HML.out
        clear hlk cx
        have hfd := bu_good (some ⟨gq, 0, none⟩) m gc hh fj
        go_wp2_with (at_builtin; refine wpList_append_own _ rfl _ _ 23 rfl w1.heap.size 2 i0 (.int .i64 0) 1 8 Tryz.underlying23 hi0 hz0 hz1 hz2 rfl (by decide) _ _ _ rfl hoq ⟨gq, 0, none⟩ m gc (numsV (Pl.goodL p sh p.rn (kf j))) rfl ?d0 ?d1 ?d2 ?d3 ?d4 ?d5 ?_)
        case d0 => simp [numsV, HM.out]
        case d1 => exact fun s x hx => HGV.out s x hx nq
        case d2 =>
          intro x hx
          unfold numsV at hx
          obtain ⟨y, _, rfl⟩ := List.mem_map.1 hx
          rfl
        case d3 => have := HRNL.out; unfold maxLen; omega
        case d4 => have := HRNL.out; omega
        case d5 => have := HBW.out.size; rw [HW2.out] at this; exact this
        intro v' w5 hown hgrow hnil
        have hown2 : w5.ownsRow w1.heap.size 2 1 v' (gath p sh nx f (i + 1)).length (numsV (gath p sh nx f (i + 1))) := by
          have e2 : numsV (gath p sh nx f (i + 1)) = numsV (gath p sh nx f i) ++ numsV (Pl.goodL p sh p.rn (kf j)) := by rw [HGA.out]; simp [numsV]
          have e3 : (gath p sh nx f (i + 1)).length = (gath p sh nx f i).length + m := by rw [HGA.out, List.length_append, HM.out]
          rw [e2, e3]; exact hown
        obtain ⟨a9, n9, c9, rfl⟩ : ∃ a9 n9 c9, v' = .slice a9 n9 c9 := by
          rcases hown2.2 with e | ⟨g, c, _, e, _⟩
          · exact ⟨_, _, _, e.1⟩
          · exact ⟨_, _, _, e⟩
        have HB5 : Hid (Below w1.heap.size w1 w5) := by
          have hbn : Below w1.heap.size w1 ((wr.alloc (.cells #[.int .i64 l, .int .i64 q] 112)).drewN nq) := by
            have := ndrewN HBW.out nq
            rw [HW2.out] at this
            exact this
          exact ⟨hgrow.os.trans hbn.os, hgrow.tape.trans hbn.tape, hgrow.output.trans hbn.output, Nat.le_trans hbn.size hgrow.size, fun k hk => (hgrow.block k (Nat.lt_of_lt_of_le hk hbn.size) (fun e => by have := (hoq.lt k e.symm).1; omega)).trans (hbn.block k hk)⟩
        have HS5 : Hid (ArS p sh nx f (i + 1) (.slice a9 n9 c9) w1 w5) := ⟨hown2, HB5.out⟩
        clear hown hown2 hgrow hnil hoq hlk1 hfd hcq
        go_wp2_with fail
        go_roundw
        case rel => exact ⟨i + 1, a9, n9, c9, by omega, by go_num, rfl, HS5⟩
        case measure => simp [intOf]; omega
      · rw [if_neg cx] at HGA
        have zg : g < wr.heap.size := World.block_lt_of_cell? _ _ n0
        have HS5 : Hid (∀ nq, ArS p sh nx f (i + 1) (.slice ra rn rc) w1 ((wr.alloc (.cells #[.int .i64 l, .int .i64 q] 112)).drewN nq)) := fun nq => by
          have hb2 : Below wr.heap.size wr ((wr.alloc (.cells #[.int .i64 l, .int .i64 q] 112)).drewN nq) := ndrewN (nbel_alloc _ _) nq
          refine ⟨?_, hS.out.old.trans (hb2.mono hS.out.old.size)⟩
          rw [HGA.out, List.append_nil]
          exact dyown2 hS.out.own hb2
        go_wp2_with fail
        go_quiet (fail)
        have cx' : (!((nx l == -1) == (nx q == -1))) = false := by simpa [bne] using cx
        rw [cx']
        clear cx cx'
        go_wp2_with fail
        go_roundw
        case rel => exact ⟨i + 1, ra, rn, rc, by omega, by go_num, rfl, HS5.out _⟩
        case measure => simp [intOf]; omega
    · obtain rfl : i = cnt := by omega
      have HLE : Hid ((gath p sh nx f i).length ≤ 1000) := by
        show _ ≤ _
        have h1 : (gath p sh nx f i).length ≤ p.rn := gath_len HFI.out (Nat.le_refl _)
        have := hr.r
        omega
      go_wp2_with fail
      refine (psort_any _ (gath p sh nx f i) _ _ hS.out.own HLE.out).mono ?_
      rintro e w6 ⟨rfl, hso, hgrow⟩
      have hso2 := hso _ (gath_sorted (gath_nodup HFI.out i (Nat.le_refl _)) (fun r => gath_about hr hs HF2.out HALL.out HHE.out r))
      have hle : (gath p sh nx f i).length = (Fl.about p (fun v => nx v != -1)).length := by
        have h1 : (numsV (Fl.about p (fun v => nx v != -1))).length = (gath p sh nx f i).length * 1 := hso2.1
        simpa [numsV] using h1.symm
      rw [hle] at hso2
      have HB6 : Hid (Below w1.heap.size w1 w6) := by
        have hbn := hS.out.old
        exact ⟨hgrow.os.trans hbn.os, hgrow.tape.trans hbn.tape, hgrow.output.trans hbn.output, Nat.le_trans hbn.size hgrow.size, fun k hk => (hgrow.block k (Nat.lt_of_lt_of_le hk hbn.size) (fun e => by have := (hS.out.own.lt k e.symm).1; omega)).trans (hbn.block k hk)⟩
      have HFIN : Hid (w6.ownsRow w.heap.size 2 1 (.slice ra rn rc) (Fl.about p (fun v => nx v != -1)).length (numsV (Fl.about p (fun v => nx v != -1)))) := by
        refine ⟨hso2.1, ?_⟩
        rcases hso2.2 with e | ⟨g, c, cur, e1, e2, e3⟩
        · exact Or.inl e
        · exact Or.inr ⟨g, c, cur, e1, Nat.le_trans HB1.out.size e2, e3⟩
      clear hso hso2 hgrow hle hS
      go_wp2_with fail
      go_ret
      exact ⟨⟨_, rfl, HFIN.out⟩, HB1.out.trans (HB6.out.mono HB1.out.size)⟩

/-- How many ways a bundle carries, read off the map. -/
def thirdOf : Value → Value
  | .agg a => a.getD 2 undef
  | _ => undef
def flOf (b : Nat) (W : World) (j : Nat) : Int := match W.heap[b]? with
  | some (.map es _) => (es[j]?.map (fun e => intOf (thirdOf e.val))).getD 0
  | _ => 0
theorem LayF.flOf {p : Pl.Plan} {sh : Nat → Prop} {b cnt : Nat} {kf : Nat → Int × Int} {gv : Nat → Value} {fl : Nat → Int} {B : Nat} {W : World} (h : LayF p sh b cnt kf gv fl B W) {j : Nat} (hj : j < cnt) : flOf b W j = fl j := by
  unfold Go.Proofs.YtipmjobhegpdgaaGreatDoor.flOf
  rw [h.map.heap]
  have : (LEs cnt kf (fun j => bu (gv j) (Pl.heldB p sh p.rn (kf j)) (fl j)))[j]? = some (ent kf (fun j => bu (gv j) (Pl.heldB p sh p.rn (kf j)) (fl j)) j) := by rw [← Array.getElem?_toList]; exact LEs.at_ hj
  simp only [this, ent, Option.map_some, Option.getD_some]
  rfl
theorem FB_congr {cnt : Nat} {kf : Nat → Int × Int} {fl fl' : Nat → Int} (h : ∀ j, j < cnt → fl j = fl' j) : Fl.FB cnt kf fl = Fl.FB cnt kf fl' := by
  funext a b
  unfold Fl.FB
  split
  · rename_i hx
    rw [h _ (Classical.choose_spec hx.2).1]
  · rfl
/-- How many ways were taken. -/
noncomputable def kOf (n : Pl.Plan) (b cnt : Nat) (kf : Nat → Int × Int) (t : Nat) (W : World) : Int := Fl.sm (fun a => Fl.FB cnt kf (flOf b W) a t) n.hn
theorem kOf_eq {p : Pl.Plan} {sh : Nat → Prop} {b cnt : Nat} {kf : Nat → Int × Int} {gv : Nat → Value} {fl : Nat → Int} {B t : Nat} {k : Int} {W : World} (h : LayF p sh b cnt kf gv fl B W) (hf : Fl.Flow p.hn (Fl.cc p) (Fl.hh p) (Fl.isSrc p) t (Fl.FB cnt kf fl) k) : kOf p b cnt kf t W = k := by
  unfold kOf
  rw [FB_congr (fun j hj => h.flOf hj)]
  exact hf.val
/-- What stands from way to way. -/
structure LwS (n : Pl.Plan) (la : Option Addr) (lk : Nat) (fa : Option Addr) (fk : Nat) (wa : Option Addr) (wk : Nat) (b cnt : Nat) (kf : Nat → Int × Int) (gv : Nat → Value) (B t : Nat) (k : Int) (w W : World) : Prop where
  st : ∃ fl, LayF n (Pl.In 0 (fun _ => 0)) b cnt kf gv fl B W ∧ Fl.Flow n.hn (Fl.cc n) (Fl.hh n) (Fl.isSrc n) t (Fl.FB cnt kf fl) k ∧ ∀ j, j < cnt → -k ≤ fl j ∧ fl j ≤ k
  pl : W.rowIs w.heap.size 32 3 (rowN (plL n la lk fa fk wa wk))
  old : Below w.heap.size w W
  lo : w.heap.size < b
theorem LwS.below {n : Pl.Plan} {la : Option Addr} {lk : Nat} {fa : Option Addr} {fk : Nat} {wa : Option Addr} {wk : Nat} {b cnt : Nat} {kf : Nat → Int × Int} {gv : Nat → Value} {B t : Nat} {k : Int} {w W W' : World} (h : LwS n la lk fa fk wa wk b cnt kf gv B t k w W) (hb : Below W.heap.size W W') : LwS n la lk fa fk wa wk b cnt kf gv B t k w W' := by
  obtain ⟨fl, h1, h2, h3⟩ := h.st
  exact ⟨⟨fl, h1.below hb, h2, h3⟩, nrow_below h.pl hb, h.old.trans (hb.mono h.old.size), h.lo⟩
set_option maxRecDepth 100000 in
set_option maxHeartbeats 4000000 in
theorem leastRows_any (n : Pl.Plan) (la : Option Addr) (lk : Nat) (fa : Option Addr) (fk : Nat) (wa : Option Addr) (wk : Nat) (t : Nat) (w : World) (h : PlAt n la fa wa w) (hr : Pl.Right n) (ht : t < n.hn) (hd : ¬ Pl.Wet n (Pl.Good n) t) :
    Calls Tryz.prog 65 #[plV n la lk fa fk wa wk, .int .i64 t] w fun e w' => (∃ v, e = .returned v ∧ w'.ownsRow w.heap.size 2 1 v (Fl.lrows n t).length (numsV (Fl.lrows n t))) ∧ Below w.heap.size w w' := by
  obtain ⟨W, hW⟩ : ∃ W, W = w.alloc (.cells #[.slice la n.rn lk, .slice fa n.sn fk, .slice wa n.hn wk] 32) := ⟨_, rfl⟩
  have hb : Below w.heap.size w W := by rw [hW]; exact nbel_alloc _ _
  have HR : Hid (W.rowIs w.heap.size 32 3 (rowN (plL n la lk fa fk wa wk))) := by show World.rowIs _ _ _ _ _; rw [hW]; exact rowN_alloc w _ _
  have H := Lib.hid h
  have HB := Lib.hid hb
  have HD := Lib.hid hd
  have hts : ¬ Fl.isSrc n t := fun ⟨i, hi, e⟩ => by
    have := Pl.Wet.src (p := n) (sh := Pl.Good n) i hi
    rw [e] at this
    exact hd (by simpa using this)
  have HTS := Lib.hid hts
  have HSN : Hid (∀ i, ¬ Pl.In 0 (fun _ => (0 : Int)) i) := fun i ⟨q, hq, _⟩ => absurd hq (Nat.not_lt_zero _)
  have HLC : Hid (Fl.lcode n t = 0) := by
    show _ = _
    unfold Fl.lcode
    rw [dB_tt ⟨hr, by omega, by omega⟩, if_pos rfl]
    have e : ((t : Int)).toNat = t := by omega
    rw [e, dB_ff hd]
    rfl
  have hh2 := hr.h2
  have hh1 := hr.h1
  have hsn : n.sn ≤ 40 := hr.sn40
  have HW := Lib.hid hW
  clear hW hb h hd hts
  go_enter Tryz.func65, Tryz.ntmps65
  go_wp2_with fail
  rw [← HW.out]
  refine (layoutOf_any n la lk none 0 0 (fun _ => 0) _ (H.out.l.below HB.out) hr (Or.inl rfl) (by omega)).mono ?_
  rintro e w1 ⟨⟨b, cnt, kf, gv, rfl, hL⟩, hb1⟩
  have hcn := lay_cnt hL hr
  have HS0 : Hid (LwS n la lk fa fk wa wk b cnt kf gv W.heap.size t 0 w w1) := by
    refine ⟨⟨fun _ => 0, LayF.of hL, Fl.flow_zero n cnt kf t, fun j _ => by simp⟩, nrow_below HR.out hb1, HB.out.trans (hb1.mono HB.out.size), ?_⟩
    have h1 := hL.lo
    have h2 := HR.out.lt
    omega
  have HK0 : Hid (kOf n b cnt kf t w1 = 0) := kOf_eq (LayF.of hL) (Fl.flow_zero n cnt kf t)
  clear hL hb1 HW HB HR
  go_wp2_with fail
  go_loopw [] (fun wr => ∃ k : Int, 0 ≤ k ∧ Hid (LwS n la lk fa fk wa wk b cnt kf gv W.heap.size t k w wr) ∧ Hid (kOf n b cnt kf t wr = k)) (fun wr => (160001 - kOf n b cnt kf t wr).toNat)
  case atStart => exact ⟨0, Int.le_refl _, HS0, HK0⟩
  case round =>
    clear HS0 HK0
    obtain ⟨k, hk0, hS, hK⟩ := hrel
    obtain ⟨⟨p0, p1, p2⟩, _⟩ := rowN3 hS.out.pl
    have hzb : w.heap.size < wr.heap.size := hS.out.pl.lt
    obtain ⟨W2, hW2⟩ : ∃ W2, W2 = wr.alloc (.cells #[.int .i64 t] 2) := ⟨_, rfl⟩
    have hb2 : Below wr.heap.size wr W2 := by rw [hW2]; exact nbel_alloc _ _
    have HS2 := Lib.hid (hS.out.below hb2)
    have HGT : Hid (IsAt (some ⟨wr.heap.size, 0, none⟩) 1 (fun _ => (t : Int)) W2) := by
      refine Or.inr ⟨_, rfl, fun j hj => ?_⟩
      obtain rfl : j = 0 := by omega
      rw [hW2]
      exact (rowN_alloc wr [.int .i64 t] 2).cell (i := 0) (by simp)
    have HW2 := Lib.hid hW2
    obtain ⟨fl, hLF, hFlow, hfl⟩ := HS2.out.st
    have hkk : k ≤ 160000 := Fl.Flow.few hr ht HD.out hFlow
    have HLF := Lib.hid hLF
    have HFlow := Lib.hid hFlow
    have HFL := Lib.hid hfl
    have HKO := Lib.hid (hLF.keys hr)
    have HINJ := Lib.hid hLF.map.inj
    have HALL : Hid (∀ i, i < n.rn → ∃ j, j < cnt ∧ kf j = Pl.key n i) := fun i hi => hLF.all i hi (HSN.out i)
    have HRM := Lib.hid hLF.room
    clear hW2 hb2 hLF hFlow hfl
    go_wp2_with fail
    rw [← HW2.out]
    clear HW2
    refine (waysTo_any b cnt kf _ _ fl (some ⟨wr.heap.size, 0, none⟩) 1 1 (fun _ => (t : Int)) n.hn _ HRM.out hcn HKO.out (fun j hj => by have := HFL.out j hj; omega) (fun j _ => by have := Pl.goodL_len (p := n) (sh := Pl.In 0 (fun _ => (0 : Int))) (k := n.rn) (κ := kf j); have := hr.r; omega) HGT.out (by omega) (fun e => by cases e) (fun i _ => by omega) (by omega) (by omega)).mono ?_
    rintro e w3 ⟨⟨g, nx, rfl, hgl, hgb, hFo⟩, hb3⟩
    have hgo : (fun v : Nat => Pl.Has 1 (fun _ => (t : Int)) (v : Int)) = (fun v => v = t) := by
      funext v
      apply propext
      constructor
      · rintro ⟨i, _, e⟩
        have e' : (t : Int) = (v : Int) := e
        omega
      · intro e; exact ⟨0, by omega, by rw [e]⟩
    rw [hgo] at hFo
    have HS3 := Lib.hid (HS2.out.below hb3)
    have HLF3 := Lib.hid (HLF.out.below hb3)
    have HFO := Lib.hid hFo
    have HGB := Lib.hid hgb
    have HGN : Hid (g ≠ b) := by have := HLF.out.map.lt; show g ≠ b; omega
    clear hgo hFo hgb hb3 HS2 p0 p1 p2 hS HRM HLF HGT hgl
    obtain ⟨⟨p0, p1, p2⟩, _⟩ := rowN3 HS3.out.pl
    go_wp2_with fail
    refine (firstWay_any fa n.sn fk n.S g n.hn nx _ (H.out.f.below HS3.out.old) HGB.out (by omega) (fun i hi => (hr.s i hi).1) (by omega)).mono ?_
    rintro e w4 ⟨hcase, rfl⟩
    have hRR : ∀ a c, a < n.hn → c < n.hn → (RoomR cnt kf (fun j => (Pl.goodL n (Pl.In 0 (fun _ => (0 : Int))) n.rn (kf j)).length) (fun j => Pl.heldB n (Pl.In 0 (fun _ => (0 : Int))) n.rn (kf j)) fl a c ↔ Fl.Room (Fl.cc n) (Fl.hh n) (Fl.FB cnt kf fl) a c) := fun a c _ _ => Fl.roomB_iff hr HSN.out HINJ.out HKO.out HALL.out a c
    have HRR := Lib.hid hRR
    clear hRR
    rcases hcase with ⟨i, hi, hne, rfl⟩ | ⟨hno, rfl⟩
    · obtain ⟨s, hs⟩ : ∃ s : Nat, n.S i = (s : Int) := ⟨(n.S i).toNat, by have := (hr.s i hi).1; omega⟩
      have hsn2 : s < n.hn := by have := (hr.s i hi).1; omega
      rw [hs, Int.toNat_natCast] at hne
      rw [hs]
      have HNE := Lib.hid hne
      have HSS : Hid (Fl.isSrc n s) := ⟨i, hi, hs⟩
      clear hne hs
      go_wp2_with fail
      refine (take_any hr HSN.out t g s nx k k _ HLF3.out HGB.out HGN.out HFL.out (by omega) HFlow.out HTS.out HFO.out HSS.out hsn2 HNE.out).mono ?_
      rintro e w5 ⟨rfl, ⟨fl', hL', hF', hfl'⟩, hO⟩
      have HS5 : Hid (LwS n la lk fa fk wa wk b cnt kf gv W.heap.size t (k + 1) w w5) := by
        have lo := HS3.out.lo
        refine ⟨⟨fl', hL', hF', hfl'⟩, HS3.out.pl.of_block (hO.block _ HS3.out.pl.lt (by omega)), HS3.out.old.trans ⟨hO.os, hO.tape, hO.output, hO.size, fun q hq => hO.block q (Nat.lt_of_lt_of_le hq HS3.out.old.size) (by omega)⟩, lo⟩
      have HK5 : Hid (kOf n b cnt kf t w5 = k + 1) := kOf_eq hL' hF'
      clear hL' hF' hfl' hO HS3 p0 p1 p2
      go_wp2_with fail
      go_roundw
      case rel => exact ⟨k + 1, by omega, HS5, HK5⟩
      case measure => rw [hK.out, HK5.out]; omega
    · have HBEST : Hid (Fl.Best n t (fun v => nx v != -1)) := Fl.found_best ht HFlow.out HRR.out HFO.out (fun a ha ⟨i, hi, e⟩ => by
        have := hno i hi
        rw [e, Int.toNat_natCast] at this
        exact this)
      have HEQ : Hid (Fl.lrows n t = Fl.about n (fun v => nx v != -1)) := Fl.lrows_ok hr ht HLC.out HBEST.out
      have HHE : Hid (∀ a c, a < n.hn → c < n.hn → Fl.hh n a c → ((nx a != -1) = (nx c != -1))) := fun a c ha hc hh => by
        have h1 := HFO.out.shut a c ha hc
        have h2 := HFO.out.shut c a hc ha
        have r1 := (HRR.out a c ha hc).2 (Or.inl hh)
        have r2 := (HRR.out c a hc ha).2 (Or.inl (by
          obtain ⟨i, hi, hb, hv⟩ := hh
          exact ⟨i, hi, by unfold Fl.btw at hb ⊢; rcases hb with h | h
                           · exact Or.inr ⟨h.1, h.2⟩
                           · exact Or.inl ⟨h.1, h.2⟩, hv⟩))
        by_cases e1 : nx a = -1
        · by_cases e2 : nx c = -1
          · rw [e1, e2]
          · exact absurd e1 (h1 e2 r1)
        · have e2 := h2 e1 r2
          have q1 : (nx a != -1) = true := by simpa using e1
          have q2 : (nx c != -1) = true := by simpa using e2
          rw [q1, q2]
      clear hno
      go_wp2_with fail
      refine (around_any hr HSN.out g nx _ HLF3.out HGB.out hcn HHE.out).mono ?_
      rintro e w5 ⟨⟨v, rfl, hown⟩, hb5⟩
      have HOW : Hid (w5.ownsRow w.heap.size 2 1 v (Fl.lrows n t).length (numsV (Fl.lrows n t))) := by
        show World.ownsRow _ _ _ _ _ _ _
        rw [HEQ.out]
        refine ⟨hown.1, ?_⟩
        rcases hown.2 with e | ⟨g, c, cur, e1, e2, e3⟩
        · exact Or.inl e
        · exact Or.inr ⟨g, c, cur, e1, Nat.le_trans HS3.out.old.size e2, e3⟩
      have HB5 : Hid (Below w.heap.size w w5) := HS3.out.old.trans (hb5.mono HS3.out.old.size)
      clear hown hb5
      go_wp2_with fail
      go_ret
      exact ⟨⟨_, rfl, HOW.out⟩, HB5.out⟩

namespace Pl
/-- The first rows with good valves. -/
noncomputable def goods (p : Plan) (i : Nat) : List Nat := (List.range i).filter fun r => dB (gd p r)
theorem goods_yes {p : Plan} {i : Nat} (h : gd p i) : goods p (i + 1) = goods p i ++ [i] := by unfold goods; rw [List.range_succ, List.filter_append]; simp [dB_tt h]
theorem goods_no {p : Plan} {i : Nat} (h : ¬ gd p i) : goods p (i + 1) = goods p i := by unfold goods; rw [List.range_succ, List.filter_append]; simp [dB_ff h]
theorem goods_len {p : Plan} {i : Nat} : (goods p i).length ≤ i := by
  have := List.length_filter_le (fun r => dB (gd p r)) (List.range i)
  simpa [goods] using this
theorem goods_mem {p : Plan} {i r : Nat} : r ∈ goods p i ↔ r < i ∧ gd p r := by unfold goods; rw [List.mem_filter, List.mem_range, dB_iff]
theorem goods_in {p : Plan} (r : Nat) : In (goods p p.rn).length (fun j => (((goods p p.rn).getD j 0 : Nat) : Int)) r ↔ Good p r := by
  have e : Good p r ↔ r ∈ goods p p.rn := goods_mem.symm
  rw [e, List.mem_iff_getElem?]
  constructor
  · rintro ⟨i, hi, h⟩
    refine ⟨i, ?_⟩
    rw [List.getElem?_eq_getElem hi]
    simp only [List.getD_eq_getElem?_getD, List.getElem?_eq_getElem hi, Option.getD_some] at h
    congr 1
    omega
  · rintro ⟨i, h⟩
    obtain ⟨hi, h2⟩ := List.getElem?_eq_some_iff.1 h
    refine ⟨i, hi, ?_⟩
    simp only [List.getD_eq_getElem?_getD, h, Option.getD_some]
theorem goods_set {p : Plan} : SetOk p (goods p p.rn).length (fun j => (((goods p p.rn).getD j 0 : Nat) : Int)) := by
  have hpw : (goods p p.rn).Pairwise (· < ·) := by
    have h1 : (List.range p.rn).Pairwise (· < ·) := List.pairwise_lt_range
    exact h1.filter _
  have hg : ∀ j, j < (goods p p.rn).length → (goods p p.rn).getD j 0 ∈ goods p p.rn := fun j hj => by
    rw [List.getD_eq_getElem?_getD, List.getElem?_eq_getElem hj, Option.getD_some]
    exact List.getElem_mem hj
  refine ⟨fun i hi => ⟨⟨by omega, ?_⟩, fun h0 => ?_⟩, fun i hi => ?_⟩
  · have := (goods_mem.1 (hg i hi)).1
    omega
  · have h1 := List.pairwise_iff_getElem.1 hpw (i - 1) i (by omega) hi (by omega)
    simp only [List.getD_eq_getElem?_getD, List.getElem?_eq_getElem hi, List.getElem?_eq_getElem (show i - 1 < (goods p p.rn).length by omega), Option.getD_some]
    omega
  · have := (goods_mem.1 (hg i hi)).2
    rw [Int.toNat_natCast]
    exact this
theorem goods_shut {p : Plan} (hr : Right p) {t : Nat} (ht : t < p.hn) : ShutOk p (t : Int) (goods p p.rn).length (fun j => (((goods p p.rn).getD j 0 : Nat) : Int)) ↔ ¬ Wet p (Good p) t := by
  have hl := goods_len (p := p) (i := p.rn)
  have hrr := hr.r
  constructor
  · rintro ⟨_, v, e, _, h⟩
    obtain rfl : t = v := by omega
    exact fun k => h (k.mono (fun i hi => (goods_in i).1 hi))
  · intro h
    exact ⟨⟨by omega, hr, goods_set⟩, t, rfl, ht, fun k => h (k.mono (fun i hi => (goods_in i).2 hi))⟩
end Pl
/-- What stands from row to row. -/
structure GdS (n : Pl.Plan) (i : Nat) (rv : Value) (w W : World) : Prop where
  own : W.ownsRow w.heap.size 2 1 rv (Pl.goods n i).length (numsV (Pl.goods n i))
  old : Below w.heap.size w W
set_option maxRecDepth 100000 in
set_option maxHeartbeats 4000000 in
theorem goodRows_any (n : Pl.Plan) (la : Option Addr) (lk : Nat) (w : World) (h : IsAt la (n.rn * 3) n.R w) (hrn : n.rn ≤ 100) :
    Calls Tryz.prog 64 #[.slice la n.rn lk] w fun e w' => (∃ v, e = .returned v ∧ w'.ownsRow w.heap.size 2 1 v (Pl.goods n n.rn).length (numsV (Pl.goods n n.rn))) ∧ Below w.heap.size w w' := by
  obtain ⟨i0, hi0, hz0, hz1, hz2⟩ := info_parts yinfo_i64
  have H := Lib.hid h
  clear h
  have HS0 : Hid (GdS n 0 (.slice none 0 0) w w) := ⟨World.ownsRow_nil _ _ _ _, Below.refl _ _⟩
  go_enter Tryz.func64, Tryz.ntmps64
  go_wp2_with fail
  go_loopw [3, 8] (fun rv iv wr => ∃ (i : Nat) (ra : Option Addr) (rn rc : Nat), i ≤ n.rn ∧ iv = .int .i64 i ∧ rv = .slice ra rn rc ∧ Hid (GdS n i (.slice ra rn rc) w wr)) (fun _ iv _ => n.rn - (intOf iv).toNat)
  case atStart => exact ⟨0, none, 0, 0, Nat.zero_le _, rfl, rfl, HS0⟩
  case round =>
    clear HS0
    obtain ⟨i, ra, rn, rc, hi, rfl, rfl, hS⟩ := hrel
    by_cases hlt : i < n.rn
    · have hltz : (i : Int) < (n.rn : Int) := by omega
      obtain ⟨b, e, c0, c1, c2⟩ := (H.out.below hS.out.old).at3 hlt
      subst e
      have hll := Pl.goods_len (p := n) (i := i)
      obtain ⟨x0, x1, x2, hx⟩ : ∃ x0 x1 x2 : Int, n.R (i * 3) = x0 ∧ n.R (i * 3 + 1) = x1 ∧ n.R (i * 3 + 2) = x2 := ⟨_, _, _, rfl, rfl, rfl⟩
      rw [hx.1] at c0
      rw [hx.2.1] at c1
      rw [hx.2.2] at c2
      have HX : Hid (n.R (i * 3 + 2) = x2) := hx.2.2
      clear hx
      by_cases hg : x2 = 1
      · have hg' : (x2 == 1) = true := by simp [hg]
        have HGD : Hid (Pl.goods n (i + 1) = Pl.goods n i ++ [i]) := Pl.goods_yes (by show n.R (i * 3 + 2) = 1; rw [HX.out]; exact hg)
        clear hg
        have ho2 := (dyown2 hS.out.own (nbel_alloc wr (.cells #[.int .i64 x0, .int .i64 x1, .int .i64 x2] 61)))
        go_wp2_with (at_builtin; refine wpList_append_own _ rfl _ _ 23 rfl w.heap.size 2 i0 (.int .i64 0) 1 8 Tryz.underlying23 hi0 hz0 hz1 hz2 rfl (by decide) _ _ _ rfl (ho2.alloc _) ⟨wr.heap.size + 1, 0, none⟩ 1 1 [.int .i64 (i : Nat)] rfl rfl ?d1 ?d2 ?d3 ?d4 ?d5 ?_)
        case d1 =>
          intro s x hx
          match s, hx with
          | 0, hx => simp at hx; subst hx; exact (rowN_alloc' (g := wr.heap.size + 1) (by simp) [.int .i64 (i : Nat)] 2).cell (i := 0) (by simp)
        case d2 => intro x hx; simp at hx; subst hx; rfl
        case d3 => unfold maxLen; omega
        case d4 => omega
        case d5 => have := hS.out.old.size; simp; omega
        intro v' w5 hown hgrow hnil
        have hown2 : w5.ownsRow w.heap.size 2 1 v' (Pl.goods n (i + 1)).length (numsV (Pl.goods n (i + 1))) := by
          rw [HGD.out, List.length_append]
          have e2 : numsV (Pl.goods n i ++ [i]) = numsV (Pl.goods n i) ++ [.int .i64 (i : Nat)] := by simp [numsV]
          rw [e2]; exact hown
        obtain ⟨a9, n9, c9, rfl⟩ : ∃ a9 n9 c9, v' = .slice a9 n9 c9 := by
          rcases hown2.2 with e | ⟨g, c, _, e, _⟩
          · exact ⟨_, _, _, e.1⟩
          · exact ⟨_, _, _, e⟩
        have HS5 : Hid (GdS n (i + 1) (.slice a9 n9 c9) w w5) := by
          have hbn : Below w.heap.size w ((wr.alloc (.cells #[.int .i64 x0, .int .i64 x1, .int .i64 x2] 61)).alloc (.cells #[.int .i64 (i : Nat)] 2)) := (hS.out.old.alloc hS.out.old.size _).alloc (by have := hS.out.old.size; simp; omega) _
          exact ⟨hown2, ⟨hgrow.os.trans hbn.os, hgrow.tape.trans hbn.tape, hgrow.output.trans hbn.output, Nat.le_trans hbn.size hgrow.size, fun k hk => (hgrow.block k (Nat.lt_of_lt_of_le hk hbn.size) (fun e => by have := (hS.out.own.lt k e.symm).1; omega)).trans (hbn.block k hk)⟩⟩
        clear hown hown2 hgrow hnil ho2
        go_wp2_with fail
        go_roundw
        case rel => exact ⟨i + 1, a9, n9, c9, by omega, by go_num, rfl, HS5⟩
        case measure => simp [intOf]; omega
      · have hg' : (x2 == 1) = false := by simp [hg]
        have HGD : Hid (Pl.goods n (i + 1) = Pl.goods n i) := Pl.goods_no (fun x => hg (by rw [← HX.out]; exact x))
        have HS5 : Hid (GdS n (i + 1) (.slice ra rn rc) w (wr.alloc (.cells #[.int .i64 x0, .int .i64 x1, .int .i64 x2] 61))) := by
          refine ⟨?_, hS.out.old.alloc hS.out.old.size _⟩
          rw [HGD.out]
          exact dyown2 hS.out.own (nbel_alloc _ _)
        clear hg
        go_wp2_with fail
        go_roundw
        case rel => exact ⟨i + 1, ra, rn, rc, by omega, by go_num, rfl, HS5⟩
        case measure => simp [intOf]; omega
    · obtain rfl : i = n.rn := by omega
      go_wp2_with fail
      go_ret
      exact ⟨⟨_, rfl, hS.out.own⟩, hS.out.old⟩

abbrev shV (v : Value) (h c : Int) : Value := .agg #[v, .int .i64 h, .int .i64 c]
abbrev shL (v : Value) (h c : Int) : List Value := [v, .int .i64 h, .int .i64 c]
theorem sput3 {V : World} {g : Nat} {x0 x1 x2 : Value} {t : TypeId} (h : V.rowIs g t 3 (rowN [x0, x1, x2])) (y0 y1 y2 : Value) : (((V.setCell ⟨g, 0, none⟩ y0).setCell ⟨g, 1, none⟩ y1).setCell ⟨g, 2, none⟩ y2).rowIs g t 3 (rowN [y0, y1, y2]) :=
  rowN_put (rowN_put (rowN_put h 0 _ (by simp)) 1 _ (by simp)) 2 _ (by simp)
theorem sbel3 {V w : World} {B g : Nat} (h : Below B w V) (hg : B ≤ g) (y0 y1 y2 : Value) : Below B w (((V.setCell ⟨g, 0, none⟩ y0).setCell ⟨g, 1, none⟩ y1).setCell ⟨g, 2, none⟩ y2) :=
  ((h.setCell (p := ⟨g, 0, none⟩) hg _).setCell (p := ⟨g, 1, none⟩) hg _).setCell (p := ⟨g, 2, none⟩) hg _
theorem sblk3 (V : World) {g k : Nat} (hk : k ≠ g) (y0 y1 y2 : Value) : (((V.setCell ⟨g, 0, none⟩ y0).setCell ⟨g, 1, none⟩ y1).setCell ⟨g, 2, none⟩ y2).heap[k]? = V.heap[k]? := by
  rw [Below.heap_setCell _ _ _ _ (by show k ≠ g; exact hk), Below.heap_setCell _ _ _ _ (by show k ≠ g; exact hk), Below.heap_setCell _ _ _ _ (by show k ≠ g; exact hk)]
set_option maxRecDepth 100000 in
set_option maxHeartbeats 4000000 in
theorem tellShut_ok (a : Option Addr) (k d : Nat) (h c : Int) (w : World) :
    Calls Tryz.prog 36 #[shV (.slice a k d) h c, .nilIface] w fun e w' => e = .returned (shV (.slice a k d) h c) ∧ Below w.heap.size w w' := by
  go_enter Tryz.func36, Tryz.ntmps36
  go_wp2_with fail
  exact bodyPost_ret (v := shV (.slice a k d) h c) (by simp only [results, Tryz.results36]; simp [go_sem]) rfl ⟨rfl, (nbel_alloc _ _).alloc (by simp) _⟩
set_option maxRecDepth 100000 in
set_option maxHeartbeats 4000000 in
theorem tellShut_bad (a : Option Addr) (k d : Nat) (h c : Int) (ev : Value) (c' : Int) (w : World) (he : ErrIs ev c') (hg : Et w) :
    Calls Tryz.prog 36 #[shV (.slice a k d) h c, ev] w fun e w' => e = .returned (shV (.slice none 0 0) 0 c') ∧ Below w.heap.size w w' := by
  obtain ⟨yy, rfl, hy⟩ := he
  obtain ⟨W, hW⟩ : ∃ W, W = (w.alloc (.cells #[.slice a k d, .int .i64 h, .int .i64 c] 28)).alloc (.cells #[.slice none 0 0, .int .i64 0, .int .i64 0] 28) := ⟨_, rfl⟩
  have HB : Hid (Below w.heap.size w W) := by show Below _ _ _; rw [hW]; exact (nbel_alloc _ _).alloc (by simp) _
  have HO : Hid (W.rowIs (w.heap.size + 1) 28 3 (rowN (shL (.slice none 0 0) 0 0))) := by show W.rowIs _ _ _ _; rw [hW]; exact rowN_alloc' (by simp) _ _
  have HW := Lib.hid hW
  have HET := Lib.hid (hg.below HB.out)
  have HY := Lib.hid hy
  clear hW hg hy
  go_enter Tryz.func36, Tryz.ntmps36
  go_wp2_with fail
  rw [← HW.out]
  clear HW
  refine (codeOf_any yy c' HY.out _ HET.out).mono ?_
  rintro e w1 ⟨rfl, hb⟩
  have HO1 := Lib.hid (nrow_below HO.out hb)
  have HB1 : Hid (Below w.heap.size w w1) := HB.out.trans (hb.mono HB.out.size)
  clear hb HO HB
  obtain ⟨⟨o0, o1, o2⟩, z0, z1, z2⟩ := rowN3 HO1.out
  have hol := HO1.out.lt
  go_wp2_with fail
  have zr := sput3 HO1.out (.slice none 0 0) (.int .i64 0) (.int .i64 c')
  have zb := sbel3 (g := w.heap.size + 1) HB1.out (by omega) (.slice none 0 0) (.int .i64 0) (.int .i64 c')
  generalize ((w1.setCell ⟨w.heap.size + 1, 0, none⟩ (.slice none 0 0)).setCell ⟨w.heap.size + 1, 1, none⟩ (.int .i64 (0))).setCell ⟨w.heap.size + 1, 2, none⟩ (.int .i64 (c')) = Z at zr zb ⊢
  obtain ⟨⟨c0, c1, c2⟩, _⟩ := rowN3 zr
  exact bodyPost_ret (v := shV (.slice none 0 0) 0 c') (by simp only [results, Tryz.results36]; simp [go_sem, c0, c1, c2]) rfl ⟨rfl, zb⟩
theorem Fl.lrows_len' {n : Pl.Plan} {place : Int} : (Fl.lrows n place).length ≤ n.rn := by
  unfold Fl.lrows
  split
  · exact Fl.abTo_len
  · simp
/-- What the inner function hands back. -/
def SlEnd (B : Nat) (n : Pl.Plan) (place : Int) (e : Ending) (W : World) : Prop :=
  (Fl.lcode n place ≠ 0 ∧ ∃ ev, e = .returned (.tuple #[shV (.slice none 0 0) 0 0, ev]) ∧ ErrIs ev (Fl.lcode n place)) ∨
  (Fl.lcode n place = 0 ∧ ∃ a c, e = .returned (.tuple #[shV (.slice a (Fl.lrows n place).length c) (Fl.lhomes n place) 0, .nilIface]) ∧ W.ownsRow B 2 1 (.slice a (Fl.lrows n place).length c) (Fl.lrows n place).length (numsV (Fl.lrows n place)))
set_option maxRecDepth 100000 in
set_option maxHeartbeats 8000000 in
theorem leastShut_any (n : Pl.Plan) (la : Option Addr) (lk : Nat) (fa : Option Addr) (fk : Nat) (wa : Option Addr) (wk : Nat) (place : Int) (w : World) (h : PlAt n la fa wa w) (hs : PlSmall n) (hfn : fa = none → n.sn = 0) :
    Calls Tryz.prog 37 #[plV n la lk fa fk wa wk, .int .i64 place] w fun e w' => SlEnd w.heap.size n place e w' ∧ Below w.heap.size w w' := by
  obtain ⟨W, hW⟩ : ∃ W, W = (w.alloc (.cells #[.slice la n.rn lk, .slice fa n.sn fk, .slice wa n.hn wk] 32)).alloc (.cells #[.slice none 0 0, .int .i64 0, .int .i64 0] 28) := ⟨_, rfl⟩
  have HB : Hid (Below w.heap.size w W) := by show Below _ _ _; rw [hW]; exact (nbel_alloc _ _).alloc (by simp) _
  have HR : Hid (W.rowIs w.heap.size 32 3 (rowN (plL n la lk fa fk wa wk))) := by show W.rowIs _ _ _ _; rw [hW]; exact nrow_below (rowN_alloc w _ _) (nbel_alloc _ _)
  have HO : Hid (W.rowIs (w.heap.size + 1) 28 3 (rowN (shL (.slice none 0 0) 0 0))) := by show W.rowIs _ _ _ _; rw [hW]; exact rowN_alloc' (by simp) _ _
  have HW := Lib.hid hW
  have H := Lib.hid (h.below HB.out)
  have HS := Lib.hid hs
  clear hW h hs
  go_enter Tryz.func37, Tryz.ntmps37
  go_wp2_with fail
  rw [← HW.out]
  clear HW
  refine (planRight_any n la lk fa fk wa wk _ H.out HS.out).mono ?_
  rintro e w1 ⟨rfl, hb⟩
  replace HR := Lib.hid (nrow_below HR.out hb)
  replace HO := Lib.hid (nrow_below HO.out hb)
  replace H := Lib.hid (H.out.below hb)
  replace HB : Hid (Below w.heap.size w w1) := HB.out.trans (hb.mono HB.out.size)
  clear hb
  obtain ⟨⟨p0, p1, p2⟩, _⟩ := rowN3 HR.out
  obtain ⟨⟨o0, o1, o2⟩, z0, z1, z2⟩ := rowN3 HO.out
  have hol := HO.out.lt
  by_cases q1 : Pl.Right n
  case neg =>
    rw [dB_ff q1]
    have HC : Hid (Fl.lcode n place = 1) := Fl.lcode_form (fun x => q1 x.1)
    clear q1
    go_wp2_with fail
    have zr := sput3 HO.out (.slice none 0 0) (.int .i64 0) (.int .i64 0)
    have zb := sbel3 (g := w.heap.size + 1) HB.out (by omega) (.slice none 0 0) (.int .i64 0) (.int .i64 0)
    generalize ((w1.setCell ⟨w.heap.size + 1, 0, none⟩ (.slice none 0 0)).setCell ⟨w.heap.size + 1, 1, none⟩ (.int .i64 (0))).setCell ⟨w.heap.size + 1, 2, none⟩ (.int .i64 (0)) = Z at zr zb ⊢
    obtain ⟨⟨c0, c1, c2⟩, _⟩ := rowN3 zr
    exact bodyPost_ret (v := .tuple #[shV (.slice none 0 0) 0 0, errV ⟨#[116, 104, 101, 32, 112, 108, 97, 110, 32, 97, 110, 100, 32, 105, 116, 115, 32, 112, 108, 97, 99, 101]⟩ 1]) (by simp only [results, Tryz.results37]; simp [go_sem, c0, c1, c2]) rfl ⟨Or.inl ⟨by rw [HC.out]; simp, _, rfl, by rw [HC.out]; exact errIs_one _ _⟩, zb⟩
  rw [dB_tt q1]
  have HRT := Lib.hid q1
  clear q1
  go_wp2_with fail
  refine (phas_any n la lk fa fk wa wk place _).mono ?_
  rintro e w2 ⟨rfl, hb⟩
  replace HR := Lib.hid (nrow_below HR.out hb)
  replace HO := Lib.hid (nrow_below HO.out hb)
  replace H := Lib.hid (H.out.below hb)
  replace HB : Hid (Below w.heap.size w w2) := HB.out.trans (hb.mono HB.out.size)
  clear hb p0 p1 p2 o0 o1 o2 z0 z1 z2 hol
  obtain ⟨⟨p0, p1, p2⟩, _⟩ := rowN3 HR.out
  obtain ⟨⟨o0, o1, o2⟩, z0, z1, z2⟩ := rowN3 HO.out
  have hol := HO.out.lt
  by_cases q2 : 0 ≤ place ∧ place < n.hn
  case neg =>
    rw [dB_ff q2]
    have HC : Hid (Fl.lcode n place = 1) := Fl.lcode_form (fun x => q2 x.2)
    clear q2
    go_wp2_with fail
    have zr := sput3 HO.out (.slice none 0 0) (.int .i64 0) (.int .i64 0)
    have zb := sbel3 (g := w.heap.size + 1) HB.out (by omega) (.slice none 0 0) (.int .i64 0) (.int .i64 0)
    generalize ((w2.setCell ⟨w.heap.size + 1, 0, none⟩ (.slice none 0 0)).setCell ⟨w.heap.size + 1, 1, none⟩ (.int .i64 (0))).setCell ⟨w.heap.size + 1, 2, none⟩ (.int .i64 (0)) = Z at zr zb ⊢
    obtain ⟨⟨c0, c1, c2⟩, _⟩ := rowN3 zr
    exact bodyPost_ret (v := .tuple #[shV (.slice none 0 0) 0 0, errV ⟨#[116, 104, 101, 32, 112, 108, 97, 110, 32, 97, 110, 100, 32, 105, 116, 115, 32, 112, 108, 97, 99, 101]⟩ 1]) (by simp only [results, Tryz.results37]; simp [go_sem, c0, c1, c2]) rfl ⟨Or.inl ⟨by rw [HC.out]; simp, _, rfl, by rw [HC.out]; exact errIs_one _ _⟩, zb⟩
  rw [dB_tt q2]
  obtain ⟨t, rfl⟩ : ∃ t : Nat, place = (t : Int) := ⟨place.toNat, by omega⟩
  have ht : t < n.hn := by omega
  clear q2 p0 p1 p2 o0 o1 o2 z0 z1 z2 hol
  go_wp2_with fail
  refine wp_region_held_drew (S := fun V => Below w2.heap.size w2 V) (by kernel_rfl) (Below.refl _ _).drew (fun hHeld => ?_)
  obtain ⟨Z, hZ⟩ : ∃ Z, Z = w2.drew := ⟨_, rfl⟩
  rw [← hZ] at hHeld ⊢
  clear hZ
  refine take_do (i := 0) (v := (plV n la lk fa fk wa wk)) rfl (by kernel_rfl) (by kernel_rfl) (by kernel_rfl) (fun _ _ _ h => h) (by rfl) ?_ (by assumption) ?_
  · intro w hSw
    obtain ⟨⟨x0, x1, x2⟩, _⟩ := rowN3 (nrow_below HR.out hSw)
    go_simp
  simp only [Act.put, List.setIfInBounds_toArray, List.set_cons_zero, List.set_cons_succ]
  refine take_do (i := 1) (v := (.int .i64 (t : Nat))) rfl (by kernel_rfl) (by kernel_rfl) (by kernel_rfl) (fun _ _ _ h => h) (by rfl) ?_ (by assumption) ?_
  · intro w hSw
    skip
    go_simp
  simp only [Act.put, List.setIfInBounds_toArray, List.set_cons_zero, List.set_cons_succ]
  refine take_do (i := 2) (v := (.pointer (some ⟨w.heap.size, 0, none⟩))) rfl (by kernel_rfl) (by kernel_rfl) (by kernel_rfl) (fun _ _ _ h => h) (by rfl) ?_ (by assumption) ?_
  · intro w hSw
    skip
    go_simp
  simp only [Act.put, List.setIfInBounds_toArray, List.set_cons_zero, List.set_cons_succ]
  refine take_do (i := 3) (v := (.slice la n.rn lk)) rfl (by kernel_rfl) (by kernel_rfl) (by kernel_rfl) (fun _ _ _ h => h) (by rfl) ?_ (by assumption) ?_
  · intro w hSw
    obtain ⟨⟨x0, x1, x2⟩, _⟩ := rowN3 (nrow_below HR.out hSw)
    go_simp
  simp only [Act.put, List.setIfInBounds_toArray, List.set_cons_zero, List.set_cons_succ]
  refine take_call (i := 4) rfl (by kernel_rfl) (fun K2 hK => ?_)
  go_simp
  refine (goodRows_any n la lk _ ((H.out.below hHeld).l) HRT.out.r).mono ?_
  rintro e w3 ⟨⟨v, rfl, hown⟩, hb⟩
  obtain ⟨ga, gc, hv, hga⟩ := own_at hown
  subst hv
  have HGA := Lib.hid hga
  go_wp2_with fail
  refine hK.out _ _ (hHeld.trans (hb.mono hHeld.size)) (fun hHeld2 => ?_)
  clear hK hHeld hown hb hga
  refine take_call (i := 5) rfl (by kernel_rfl) (fun K2 hK => ?_)
  go_simp
  refine (implShut_any n la lk fa fk wa wk (t : Int) ga _ gc _ _ (H.out.below hHeld2) HS.out HGA.out (by have := Pl.goods_len (p := n) (i := n.rn); have := HS.out.1; omega) hfn).mono ?_
  rintro e w4 ⟨rfl, hb⟩
  rw [dB_congr (Pl.goods_shut HRT.out ht)]
  obtain ⟨sb, hsb⟩ : ∃ sb, sb = dB (¬ Pl.Wet n (Pl.Good n) t) := ⟨_, rfl⟩
  rw [← hsb]
  have HSB := Lib.hid hsb
  clear hsb
  go_wp2_with fail
  refine hK.out _ _ (hHeld2.trans (hb.mono hHeld2.size)) (fun hHeld => ?_)
  clear hK hHeld2 hb HGA
  refine take_do (i := 6) (v := (.bool (!sb))) rfl (by kernel_rfl) (by kernel_rfl) (by kernel_rfl) (fun _ _ _ h => h) (by rfl) ?_ (by assumption) ?_
  · intro w hSw
    skip
    go_simp
  simp only [Act.put, List.setIfInBounds_toArray, List.set_cons_zero, List.set_cons_succ]
  refine wpAnyH_done (by kernel_rfl) ?_ _
  replace HR := Lib.hid (nrow_below HR.out hHeld)
  replace HO := Lib.hid (nrow_below HO.out hHeld)
  replace H := Lib.hid (H.out.below hHeld)
  replace HB : Hid (Below w.heap.size w w4) := HB.out.trans (hHeld.mono HB.out.size)
  clear hHeld
  obtain ⟨⟨p0, p1, p2⟩, _⟩ := rowN3 HR.out
  obtain ⟨⟨o0, o1, o2⟩, z0, z1, z2⟩ := rowN3 HO.out
  have hol := HO.out.lt
  cases sb with
  | false =>
    have HC : Hid (Fl.lcode n (t : Int) = 4) := Fl.lcode_none HRT.out ht (Classical.byContradiction (fun x => by have := HSB.out; rw [dB_tt x] at this; cases this))
    go_wp2_with fail
    have zr := sput3 HO.out (.slice none 0 0) (.int .i64 0) (.int .i64 0)
    have zb := sbel3 (g := w.heap.size + 1) HB.out (by omega) (.slice none 0 0) (.int .i64 0) (.int .i64 0)
    generalize ((w4.setCell ⟨w.heap.size + 1, 0, none⟩ (.slice none 0 0)).setCell ⟨w.heap.size + 1, 1, none⟩ (.int .i64 (0))).setCell ⟨w.heap.size + 1, 2, none⟩ (.int .i64 (0)) = Z at zr zb ⊢
    obtain ⟨⟨c0, c1, c2⟩, _⟩ := rowN3 zr
    exact bodyPost_ret (v := .tuple #[shV (.slice none 0 0) 0 0, errV ⟨#[115, 104, 117, 116, 116, 105, 110, 103, 32, 97, 108, 108, 32, 103, 111, 111, 100, 32, 118, 97, 108, 118, 101, 115]⟩ 4]) (by simp only [results, Tryz.results37]; simp [go_sem, c0, c1, c2]) rfl ⟨Or.inl ⟨by rw [HC.out]; simp, _, rfl, by rw [HC.out]; exact errIs_one _ _⟩, zb⟩
  | true =>
    have HDR : Hid (¬ Pl.Wet n (Pl.Good n) t) := dB_iff.1 HSB.out.symm
    have HC : Hid (Fl.lcode n (t : Int) = 0) := Fl.lcode_ok HRT.out ht HDR.out
    go_wp2_with fail
    refine (leastRows_any n la lk fa fk wa wk t _ H.out HRT.out ht HDR.out).mono ?_
    rintro e w5 ⟨⟨v, rfl, hown⟩, hb⟩
    obtain ⟨ra, rc, hv, hra⟩ := own_at hown
    subst hv
    replace HR := Lib.hid (nrow_below HR.out hb)
    replace HO := Lib.hid (nrow_below HO.out hb)
    replace H := Lib.hid (H.out.below hb)
    have HWB : Hid (w.heap.size + 1 < w4.heap.size ∧ w.heap.size ≤ w4.heap.size) := ⟨hol, HB.out.size⟩
    replace HB : Hid (Below w.heap.size w w5) := HB.out.trans (hb.mono HB.out.size)
    have HOW := Lib.hid hown
    have HRA := Lib.hid hra
    have HLL : Hid ((Fl.lrows n (t : Int)).length ≤ 1048576) := by
      show _ ≤ _
      have := Fl.lrows_len' (n := n) (place := (t : Int))
      have := HRT.out.r
      omega
    clear hown hra hb p0 p1 p2 o0 o1 o2 z0 z1 z2 hol
    obtain ⟨⟨p0, p1, p2⟩, _⟩ := rowN3 HR.out
    obtain ⟨m, hm⟩ : ∃ m, m = (Fl.lrows n (t : Int)).length := ⟨_, rfl⟩
    have HM := Lib.hid hm
    rw [← hm] at HRA HLL ⊢
    clear hm
    go_wp2_with fail
    refine (implHomes_any n la lk fa fk wa wk ra m rc _ _ H.out HS.out HRA.out HLL.out hfn).mono ?_
    rintro e w6 ⟨rfl, hb⟩
    replace HO := Lib.hid (nrow_below HO.out hb)
    replace HB : Hid (Below w.heap.size w w6) := HB.out.trans (hb.mono HB.out.size)
    have HOW6 := Lib.hid (dyown2 HOW.out hb)
    clear hb p0 p1 p2
    obtain ⟨hm, hhm⟩ : ∃ hm, hm = Pl.homes n m (fun j => (((Fl.lrows n (t : Int)).getD j 0 : Nat) : Int)) := ⟨_, rfl⟩
    rw [← hhm]
    have HHM : Hid (Fl.lhomes n (t : Int) = hm) := by
      show _ = _
      rw [hhm, HM.out]
      unfold Fl.lhomes
      rw [dB_tt HC.out, if_pos rfl]
    clear hhm
    obtain ⟨⟨o0, o1, o2⟩, z0, z1, z2⟩ := rowN3 HO.out
    have hol := HO.out.lt
    go_wp2_with fail
    have zr := sput3 HO.out (.slice ra m rc) (.int .i64 hm) (.int .i64 0)
    have zb := sbel3 (g := w.heap.size + 1) HB.out (by omega) (.slice ra m rc) (.int .i64 hm) (.int .i64 0)
    have zo : World.ownsRow _ w.heap.size 2 1 (.slice ra m rc) (Fl.lrows n (t : Int)).length (numsV (Fl.lrows n (t : Int))) := own_low (d_far' (by have := HOW6.out; rw [← HM.out] at this ⊢; exact this) (fun k e hl => sblk3 w6 (by
      have h1 := (HOW6.out.lt k (by rw [← HM.out]; exact e)).1
      have h2 := HWB.out
      show k ≠ w.heap.size + 1
      omega) (.slice ra m rc) (.int .i64 hm) (.int .i64 0))) HWB.out.2
    generalize ((w6.setCell ⟨w.heap.size + 1, 0, none⟩ (.slice ra m rc)).setCell ⟨w.heap.size + 1, 1, none⟩ (.int .i64 (hm))).setCell ⟨w.heap.size + 1, 2, none⟩ (.int .i64 (0)) = Z at zr zb zo ⊢
    obtain ⟨⟨c0, c1, c2⟩, _⟩ := rowN3 zr
    exact bodyPost_ret (v := .tuple #[shV (.slice ra m rc) hm 0, .nilIface]) (by simp only [results, Tryz.results37]; simp [go_sem, c0, c1, c2]) rfl ⟨Or.inr ⟨HC.out, ra, rc, by rw [← HM.out, HHM.out], by rw [← HM.out] at zo ⊢; exact zo⟩, zb⟩

/-- A list that an answer is: its own memory, or none. -/
def SlOwn (B N : Nat) (a : Option Addr) (c : Nat) (f : Nat → Int) (W : World) : Prop := (a = none ∧ N = 0 ∧ c = 0) ∨ ∃ g, a = some ⟨g, 0, none⟩ ∧ B ≤ g ∧ IsBlk 2 g N f W
theorem SlOwn.same {B N c : Nat} {a : Option Addr} {f : Nat → Int} {W W' : World} (h : SlOwn B N a c f W) (hb : ∀ k, B ≤ k → k < W.heap.size → W'.heap[k]? = W.heap[k]?) : SlOwn B N a c f W' := by
  rcases h with h | ⟨g, e, h1, h2⟩
  · exact Or.inl h
  · exact Or.inr ⟨g, e, h1, h2.block (hb g h1 h2.lt)⟩
theorem SlOwn.below {B N c : Nat} {a : Option Addr} {f : Nat → Int} {W W' : World} (h : SlOwn B N a c f W) (hb : Below W.heap.size W W') : SlOwn B N a c f W' := h.same (fun k _ hk => hb.block k hk)
theorem SlOwn.at_ {B N c : Nat} {a : Option Addr} {f : Nat → Int} {W : World} (h : SlOwn B N a c f W) : IsAt a N f W := by
  rcases h with h | ⟨g, e, h1, h2⟩
  · exact Or.inl h.2.1
  · rw [e]; exact h2.at_
theorem SlOwn.low {B B' N c : Nat} {a : Option Addr} {f : Nat → Int} {W : World} (h : SlOwn B N a c f W) (hb : B' ≤ B) : SlOwn B' N a c f W := by
  rcases h with h | ⟨g, e, h1, h2⟩
  · exact Or.inl h
  · exact Or.inr ⟨g, e, Nat.le_trans hb h1, h2⟩
theorem SlOwn.lt {B N c : Nat} {a : Option Addr} {f : Nat → Int} {W : World} (h : SlOwn B N a c f W) {k : Nat} (e : a = some ⟨k, 0, none⟩) : B ≤ k ∧ k < W.heap.size := by
  rcases h with h | ⟨g, e', h1, h2⟩
  · rw [h.1] at e; cases e
  · rw [e'] at e; cases e; exact ⟨h1, h2.lt⟩
def snls (l : List Nat) (j : Nat) : Int := ((l.getD j 0 : Nat) : Int)
theorem sls_own {B : Nat} {v : Value} {l : List Nat} {W : World} (h : W.ownsRow B 2 1 v l.length (numsV l)) : ∃ a c, v = .slice a l.length c ∧ SlOwn B l.length a c (snls l) W := by
  rcases h.2 with h2 | ⟨g, cap, cur, e1, e2, e3, e4, e5, e6, e7⟩
  · exact ⟨none, 0, by rw [h2.1, h2.2], Or.inl ⟨rfl, h2.2, rfl⟩⟩
  · refine ⟨_, _, e1, Or.inr ⟨g, rfl, e2, cap, fun i => cur[i]?.getD undef, by omega, ⟨cur, e3, by simpa using e6, fun i hi => ?_⟩, fun j hj => ?_⟩⟩
    · show cur[i]? = some (cur[i]?.getD undef)
      rw [Array.getElem?_eq_getElem (by omega)]
      rfl
    · have h1 : (cur.toList.take (l.length * 1))[j]? = (numsV l)[j]? := by rw [e7]
      rw [List.getElem?_take, if_pos (by omega), Array.getElem?_toList] at h1
      show cur[j]?.getD undef = _
      rw [h1]
      simp [numsV, snls, hj]
theorem smarkLs {B N c : Nat} {a : Option Addr} {f : Nat → Int} (w : World) (h : SlOwn B N a c f w) (hn : N ≤ 1048576) :
    Calls Tryz.prog 41 #[.slice a N c, .int .i64 1] w fun e w' => e = .returned (.int .i64 ((1 + N : Nat) : Int)) ∧ SlOwn B N a c (mk1 1) w' ∧ (∀ k, k < w.heap.size → a ≠ some ⟨k, 0, none⟩ → w'.heap[k]? = w.heap[k]?) ∧ w'.os = w.os ∧ w'.tape = w.tape ∧ w'.output = w.output ∧ w.heap.size ≤ w'.heap.size := by
  rcases h with ⟨rfl, rfl, rfl⟩ | ⟨g, rfl, h1, h2⟩
  · refine (nmarkInt64S_nil 1 w).mono ?_
    rintro e w' ⟨rfl, rfl⟩
    exact ⟨rfl, Or.inl ⟨rfl, rfl, rfl⟩, fun _ _ _ => rfl, rfl, rfl, rfl, Nat.le_refl _⟩
  · refine (nmarkInt64S_any g N c 1 f w h2 hn (by omega)).mono ?_
    rintro e w' ⟨rfl, hm, ho⟩
    exact ⟨rfl, Or.inr ⟨g, rfl, h1, hm⟩, fun k hk hne => ho.block k hk (fun e => hne (by rw [e])), ho.os, ho.tape, ho.output, ho.size⟩
theorem sheldLs {B N c : Nat} {a : Option Addr} (w : World) (h : SlOwn B N a c (mk1 1) w) (hn : N ≤ 1048576) :
    Calls Tryz.prog 42 #[.slice a N c, .int .i64 1] w fun e w' => e = .returned (.int .i64 ((1 + N : Nat) : Int)) ∧ w' = w := by
  rcases h with ⟨rfl, rfl, rfl⟩ | ⟨g, rfl, h1, h2⟩
  · exact nheldInt64S_nil 1 w
  · exact nheldInt64S_any g N c 1 w h2 hn (by omega)
set_option maxRecDepth 100000 in
set_option maxHeartbeats 2000000 in
theorem eqShutOut_same (a b : Option Addr) (N c c' : Nat) (x y : Int) (f : Nat → Int) (w : World) (h1 : IsAt a N f w) (h2 : IsAt b N f w) (hn : N ≤ 1048576) :
    Calls Tryz.prog 10 #[shV (.slice a N c) x y, shV (.slice b N c') x y] w fun e w' => e = .returned (.bool true) ∧ Below w.heap.size w w' := by
  obtain ⟨W, hW⟩ : ∃ W, W = (w.alloc (.cells #[.slice a N c, .int .i64 x, .int .i64 y] 28)).alloc (.cells #[.slice b N c', .int .i64 x, .int .i64 y] 28) := ⟨_, rfl⟩
  have HB : Hid (Below w.heap.size w W) := by show Below _ _ _; rw [hW]; exact (nbel_alloc _ _).alloc (by simp) _
  have HR : Hid (W.rowIs w.heap.size 28 3 (rowN (shL (.slice a N c) x y))) := by show W.rowIs _ _ _ _; rw [hW]; exact nrow_below (rowN_alloc w _ _) (nbel_alloc _ _)
  have HO : Hid (W.rowIs (w.heap.size + 1) 28 3 (rowN (shL (.slice b N c') x y))) := by show W.rowIs _ _ _ _; rw [hW]; exact rowN_alloc' (by simp) _ _
  have HW := Lib.hid hW
  have H1 := Lib.hid (h1.below HB.out)
  have H2 := Lib.hid (h2.below HB.out)
  clear hW h1 h2
  go_enter Tryz.func10, Tryz.ntmps10
  go_wp2_with fail
  rw [← HW.out]
  clear HW
  refine (neqInt64S_same _ _ N _ _ f _ H1.out H2.out hn).mono ?_
  rintro e w1 ⟨rfl, hb⟩
  obtain ⟨⟨x0, x1, x2⟩, _⟩ := rowN3 (nrow_below HR.out hb)
  obtain ⟨⟨y0, y1, y2⟩, _⟩ := rowN3 (nrow_below HO.out hb)
  have HB1 : Hid (Below w.heap.size w w1) := HB.out.trans (hb.mono HB.out.size)
  clear hb
  go_wp2_with fail
  go_ret
  exact ⟨rfl, HB1.out⟩
set_option maxRecDepth 100000 in
set_option maxHeartbeats 2000000 in
theorem markShutOut_any {B N c : Nat} {a : Option Addr} {f : Nat → Int} (x y : Int) (w : World) (h : SlOwn B N a c f w) (hn : N ≤ 1048576) :
    Calls Tryz.prog 13 #[shV (.slice a N c) x y, .int .i64 1] w fun e w' => e = .returned (.int .i64 ((1 + N : Nat) : Int)) ∧ SlOwn B N a c (mk1 1) w' ∧ (∀ k, k < w.heap.size → a ≠ some ⟨k, 0, none⟩ → w'.heap[k]? = w.heap[k]?) ∧ w'.os = w.os ∧ w'.tape = w.tape ∧ w'.output = w.output ∧ w.heap.size ≤ w'.heap.size := by
  obtain ⟨W, hW⟩ : ∃ W, W = w.alloc (.cells #[.slice a N c, .int .i64 x, .int .i64 y] 28) := ⟨_, rfl⟩
  have HB : Hid (Below w.heap.size w W) := by show Below _ _ _; rw [hW]; exact nbel_alloc _ _
  have H := Lib.hid (h.below HB.out)
  have HW := Lib.hid hW
  clear hW h
  go_enter Tryz.func13, Tryz.ntmps13
  go_wp2_with fail
  rw [← HW.out]
  clear HW
  refine (smarkLs _ H.out hn).mono ?_
  rintro e w1 ⟨rfl, hm, hk, h1, h2, h3, h4⟩
  have HM := Lib.hid hm
  have HP : Hid ((∀ k, k < w.heap.size → a ≠ some ⟨k, 0, none⟩ → w1.heap[k]? = w.heap[k]?) ∧ w1.os = w.os ∧ w1.tape = w.tape ∧ w1.output = w.output ∧ w.heap.size ≤ w1.heap.size) := by
    have b := HB.out
    exact ⟨fun k hkk hne => (hk k (Nat.lt_of_lt_of_le hkk b.size) hne).trans (b.block k hkk), h1.trans b.os, h2.trans b.tape, h3.trans b.output, Nat.le_trans b.size h4⟩
  clear hm hk h1 h2 h3 h4
  obtain ⟨Q, hQ⟩ : ∃ Q : Nat, Q = 1 + N := ⟨_, rfl⟩
  rw [← hQ]
  have HQ := Lib.hid hQ
  clear hQ
  go_wp2_with fail
  go_ret
  exact ⟨by rw [← HQ.out]; rfl, HM.out, HP.out⟩
set_option maxRecDepth 100000 in
set_option maxHeartbeats 2000000 in
theorem heldShutOut_any {B N c : Nat} {a : Option Addr} (x y : Int) (w : World) (h : SlOwn B N a c (mk1 1) w) (hn : N ≤ 1048576) :
    Calls Tryz.prog 14 #[shV (.slice a N c) x y, .int .i64 1] w fun e w' => e = .returned (.int .i64 ((1 + N : Nat) : Int)) ∧ Below w.heap.size w w' := by
  obtain ⟨W, hW⟩ : ∃ W, W = w.alloc (.cells #[.slice a N c, .int .i64 x, .int .i64 y] 28) := ⟨_, rfl⟩
  have HB : Hid (Below w.heap.size w W) := by show Below _ _ _; rw [hW]; exact nbel_alloc _ _
  have H := Lib.hid (h.below HB.out)
  have HW := Lib.hid hW
  clear hW h
  go_enter Tryz.func14, Tryz.ntmps14
  go_wp2_with fail
  rw [← HW.out]
  clear HW
  refine (sheldLs _ H.out hn).mono ?_
  rintro e w1 ⟨rfl, rfl⟩
  obtain ⟨Q, hQ⟩ : ∃ Q : Nat, Q = 1 + N := ⟨_, rfl⟩
  rw [← hQ]
  have hQ0 : ¬ (Q : Int) < 0 := by omega
  have HQ := Lib.hid hQ
  clear hQ
  go_wp2_with fail
  go_ret
  exact ⟨by rw [← HQ.out]; rfl, HB.out⟩
theorem Fl.lnone {n : Pl.Plan} {place : Int} (h : Fl.lcode n place ≠ 0) : Fl.lrows n place = [] ∧ Fl.lhomes n place = 0 := by
  unfold Fl.lrows Fl.lhomes
  rw [dB_ff (fun x => h x.1), dB_ff h]
  exact ⟨rfl, rfl⟩
set_option maxRecDepth 100000 in
set_option maxHeartbeats 4000000 in
theorem implLeast_any (n : Pl.Plan) (la : Option Addr) (lk : Nat) (fa : Option Addr) (fk : Nat) (wa : Option Addr) (wk : Nat) (place : Int) (w : World) (h : PlAt n la fa wa w) (hs : PlSmall n) (hfn : fa = none → n.sn = 0) (hg : Et w) :
    Calls Tryz.prog 9 #[plV n la lk fa fk wa wk, .int .i64 place] w fun e w' => (∃ rv, e = .returned (shV rv (Fl.lhomes n place) (Fl.lcode n place)) ∧ w'.ownsRow w.heap.size 2 1 rv (Fl.lrows n place).length (numsV (Fl.lrows n place))) ∧ Below w.heap.size w w' := by
  obtain ⟨W, hW⟩ : ∃ W, W = (w.alloc (.cells #[.slice la n.rn lk, .slice fa n.sn fk, .slice wa n.hn wk] 32)).alloc (.cells #[.slice none 0 0, .int .i64 0, .int .i64 0] 28) := ⟨_, rfl⟩
  have HB : Hid (Below w.heap.size w W) := by show Below _ _ _; rw [hW]; exact (nbel_alloc _ _).alloc (by simp) _
  have HO : Hid (W.rowIs (w.heap.size + 1) 28 3 (rowN (shL (.slice none 0 0) 0 0))) := by show W.rowIs _ _ _ _; rw [hW]; exact rowN_alloc' (by simp) _ _
  have H := Lib.hid (h.below HB.out)
  have HW := Lib.hid hW
  have HG := Lib.hid hg
  clear hW h hg
  go_enter Tryz.func9, Tryz.ntmps9
  go_wp2_with fail
  rw [← HW.out]
  clear HW
  refine (leastShut_any n la lk fa fk wa wk place _ H.out hs hfn).mono ?_
  rintro e w1 ⟨hE, hb⟩
  have HO1 := Lib.hid (nrow_below HO.out hb)
  have HL : Hid (w.heap.size ≤ W.heap.size ∧ w.heap.size + 1 < W.heap.size) := ⟨HB.out.size, HO.out.lt⟩
  have HB1 : Hid (Below w.heap.size w w1) := HB.out.trans (hb.mono HB.out.size)
  clear hb H HB HO
  obtain ⟨⟨o0, o1, o2⟩, z0, z1, z2⟩ := rowN3 HO1.out
  have hol := HO1.out.lt
  rcases hE with ⟨hc, ev, rfl, he⟩ | ⟨hc, a, c, rfl, ho⟩
  · obtain ⟨h0, h1⟩ := Fl.lnone hc
    have HE := Lib.hid he
    have HN : Hid (Fl.lrows n place = [] ∧ Fl.lhomes n place = 0) := ⟨h0, h1⟩
    clear h0 h1 he hc
    go_wp2_with fail
    refine (tellShut_bad _ _ _ _ _ _ _ _ HE.out (HG.out.below HB1.out)).mono ?_
    rintro e w2 ⟨rfl, hb⟩
    have HB3 : Hid (Below w.heap.size w w2) := HB1.out.trans (hb.mono HB1.out.size)
    have HO2 := Lib.hid (nrow_below HO1.out hb)
    clear hb o0 o1 o2 z0 z1 z2 hol
    obtain ⟨⟨o0, o1, o2⟩, z0, z1, z2⟩ := rowN3 HO2.out
    have hol := HO2.out.lt
    obtain ⟨cd, hcd⟩ : ∃ cd, cd = Fl.lcode n place := ⟨_, rfl⟩
    rw [← hcd]
    have HCD := Lib.hid hcd
    clear hcd
    go_wp2_with fail
    have zr := sput3 HO2.out (.slice none 0 0) (.int .i64 0) (.int .i64 cd)
    have zb := sbel3 (g := w.heap.size + 1) HB3.out (by omega) (.slice none 0 0) (.int .i64 0) (.int .i64 cd)
    generalize ((w2.setCell ⟨w.heap.size + 1, 0, none⟩ (.slice none 0 0)).setCell ⟨w.heap.size + 1, 1, none⟩ (.int .i64 (0))).setCell ⟨w.heap.size + 1, 2, none⟩ (.int .i64 (cd)) = Z at zr zb ⊢
    obtain ⟨⟨c0, c1, c2⟩, _⟩ := rowN3 zr
    refine bodyPost_ret (v := shV (.slice none 0 0) 0 cd) (by simp only [results, Tryz.results9]; simp [go_sem, c0, c1, c2]) rfl ?_
    exact ⟨⟨.slice none 0 0, by rw [HN.out.2, ← HCD.out], by rw [HN.out.1]; exact World.ownsRow_nil _ _ _ _⟩, zb⟩
  · have HOW := Lib.hid ho
    clear ho
    have HC := Lib.hid hc
    clear hc
    obtain ⟨hm, hh⟩ : ∃ hm, hm = Fl.lhomes n place := ⟨_, rfl⟩
    rw [← hh]
    have HH := Lib.hid hh
    clear hh
    obtain ⟨L, hL⟩ : ∃ L, L = Fl.lrows n place := ⟨_, rfl⟩
    rw [← hL] at HOW ⊢
    have HLL := Lib.hid hL
    clear hL
    obtain ⟨m, hm'⟩ : ∃ m, m = L.length := ⟨_, rfl⟩
    rw [← hm'] at HOW ⊢
    have HM := Lib.hid hm'
    clear hm'
    go_wp2_with fail
    refine (tellShut_ok _ _ _ _ _ _).mono ?_
    rintro e w2 ⟨rfl, hb⟩
    have HB3 : Hid (Below w.heap.size w w2) := HB1.out.trans (hb.mono HB1.out.size)
    have HO3 := Lib.hid (dyown2 (own_low HOW.out HL.out.1) hb)
    have HO2 := Lib.hid (nrow_below HO1.out hb)
    clear hb o0 o1 o2 z0 z1 z2 hol
    obtain ⟨⟨o0, o1, o2⟩, z0, z1, z2⟩ := rowN3 HO2.out
    have hol := HO2.out.lt
    go_wp2_with fail
    have zr := sput3 HO2.out (.slice a m c) (.int .i64 hm) (.int .i64 0)
    have zb := sbel3 (g := w.heap.size + 1) HB3.out (by omega) (.slice a m c) (.int .i64 hm) (.int .i64 0)
    have zo : World.ownsRow _ w.heap.size 2 1 (.slice a m c) m (numsV L) := d_far' HO3.out (fun k e hl => sblk3 w2 (by
      have h1 := (HOW.out.lt k e).1
      have h2 := HL.out
      show k ≠ w.heap.size + 1
      omega) (.slice a m c) (.int .i64 hm) (.int .i64 0))
    generalize ((w2.setCell ⟨w.heap.size + 1, 0, none⟩ (.slice a m c)).setCell ⟨w.heap.size + 1, 1, none⟩ (.int .i64 (hm))).setCell ⟨w.heap.size + 1, 2, none⟩ (.int .i64 (0)) = Z at zr zb zo ⊢
    obtain ⟨⟨c0, c1, c2⟩, _⟩ := rowN3 zr
    refine bodyPost_ret (v := shV (.slice a m c) hm 0) (by simp only [results, Tryz.results9]; simp [go_sem, c0, c1, c2]) rfl ?_
    exact ⟨⟨.slice a m c, by rw [← HH.out, HC.out], by rw [← HLL.out, ← HM.out]; exact zo⟩, zb⟩

/-- What lasts in this law: the model's answer at X, the program's list from B on, its answer at g9. -/
structure LgP (w : World) (X B N : Nat) (a0 : Option Addr) (c0 : Nat) (b : Option Addr) (c : Nat) (f g : Nat → Int) (g9 : Nat) (px py : Int) (W : World) : Prop where
  l0 : SlOwn w.heap.size N a0 c0 f W
  lo : (∀ k, a0 = some ⟨k, 0, none⟩ → k < X) ∧ X < B ∧ B ≤ g9 ∧ ∀ k, b = some ⟨k, 0, none⟩ → k < g9
  l1 : SlOwn B N b c g W
  r6 : W.rowIs X 28 3 (rowN (shL (.slice a0 N c0) px py))
  r9 : W.rowIs g9 28 3 (rowN (shL (.slice b N c) px py))
theorem LgP.below {w : World} {X B N : Nat} {a0 : Option Addr} {c0 : Nat} {b : Option Addr} {c : Nat} {f g : Nat → Int} {g9 : Nat} {px py : Int} : Lasts (LgP w X B N a0 c0 b c f g g9 px py) := fun _ _ hb h => ⟨h.l0.below hb, h.lo, h.l1.below hb, nrow_below h.r6 hb, nrow_below h.r9 hb⟩
theorem LgP.keep {w : World} {X B N : Nat} {a0 : Option Addr} {c0 : Nat} {b : Option Addr} {c : Nat} {f g g' : Nat → Int} {g9 : Nat} {px py : Int} {W W' : World} (p : LgP w X B N a0 c0 b c f g g9 px py W) (h0 : ∀ k, w.heap.size ≤ k → k ≤ X → k < W.heap.size → W'.heap[k]? = W.heap[k]?) (hX : w.heap.size ≤ X) (h9 : W'.heap[g9]? = W.heap[g9]?) (h1 : SlOwn B N b c g' W') : LgP w X B N a0 c0 b c f g' g9 px py W' := by
  refine ⟨?_, p.lo, h1, p.r6.of_block (h0 X hX (Nat.le_refl _) p.r6.lt), p.r9.of_block h9⟩
  rcases p.l0 with k | ⟨g, e, k1, k2⟩
  · exact Or.inl k
  · exact Or.inr ⟨g, e, k1, k2.block (h0 g k1 (Nat.le_of_lt (p.lo.1 g e)) k2.lt)⟩
set_option maxRecDepth 100000 in
set_option maxHeartbeats 4000000 in
theorem leastShut_law (w : World) (n : Pl.Plan) (la : Option Addr) (lk : Nat) (fa : Option Addr) (fk : Nat) (wa : Option Addr) (wk : Nat) (h : PlIn n la fa wa w) (hl : PlLens n) (place : Int) (hg : Et w) :
    Calls Tryz.prog 3 #[plV n la lk fa fk wa wk, .int .i64 place] w fun e w' => e = .returned (.bool true) ∧ Below w.heap.size w w' := by
  have H := Lib.hid h
  have HG := Lib.hid hg
  obtain ⟨W, hW⟩ : ∃ W, W = w.alloc (.cells #[.slice la n.rn lk, .slice fa n.sn fk, .slice wa n.hn wk] 25) := ⟨_, rfl⟩
  have R0 : Hid (W.rowIs w.heap.size 25 3 (rowN (plL n la lk fa fk wa wk))) := by rw [hW]; exact rowN_alloc w _ _
  have B0 : Hid (Below w.heap.size w W) := by rw [hW]; exact nbel_alloc _ _
  have HW := Lib.hid hW
  clear h hW hg
  go_enter Tryz.func3, Tryz.ntmps3
  go_wp2_with fail
  rw [← HW.out]
  refine (szPlan_any n la lk fa fk wa wk _ hl.1 hl.2.1 hl.2.2).mono ?_
  rintro e w1 ⟨⟨z, rfl, hz⟩, hb⟩
  have R1 := Lib.hid (nrow_below R0.out hb)
  have B1 : Hid (Below w.heap.size w w1) := B0.out.trans (hb.mono B0.out.size)
  clear hb R0 B0
  rcases hz with hz | ⟨hz, hs⟩
  · go_wp2_with fail
    go_ret
    exact ⟨rfl, B1.out⟩
  have HS := Lib.hid hs
  have hz0 : ¬ z < 0 := by omega
  clear hs hz
  obtain ⟨⟨r0, r1, r2⟩, _⟩ := rowN3 R1.out
  go_wp2_with fail
  refine (toPlan_any n la lk fa fk wa wk _ (H.out.below B1.out) HS.out).mono ?_
  rintro e w2 ⟨⟨gl, gf, gw, rfl, hk⟩, hb⟩
  have R2 := Lib.hid (nrow_below R1.out hb)
  have B2 : Hid (Below w.heap.size w w2) := B1.out.trans (hb.mono B1.out.size)
  have K2 := Lib.hid hk
  clear hb hk R1 B1 r0 r1 r2
  go_wp2_with fail
  refine (specLeast_any n _ _ _ _ _ _ place _ K2.out.at_ HS.out).mono ?_
  rintro e w3 ⟨⟨v0, rfl, hO⟩, hb⟩
  obtain ⟨a0, c0, rfl, hL⟩ := sls_own hO
  have hdl : (Fl.lrows n place).length ≤ 1048576 := by
    have := Fl.lrows_len' (n := n) (place := place)
    have := HS.out.1
    omega
  obtain ⟨l, hbe⟩ : ∃ l, l = Fl.lrows n place := ⟨_, rfl⟩
  obtain ⟨x, hbx⟩ : ∃ x, x = Fl.lhomes n place := ⟨_, rfl⟩
  obtain ⟨y, hby⟩ : ∃ y, y = Fl.lcode n place := ⟨_, rfl⟩
  have HBE := Lib.hid hbe
  have HBX := Lib.hid hbx
  have HBY := Lib.hid hby
  rw [← hbe] at hdl hL ⊢
  rw [← hbx, ← hby]
  obtain ⟨K, hbk⟩ : ∃ K, K = l.length := ⟨_, rfl⟩
  have HBK := Lib.hid hbk
  rw [← hbk] at hdl hL ⊢
  have R3 := Lib.hid (nrow_below R2.out hb)
  have B3 : Hid (Below w.heap.size w w3) := B2.out.trans (hb.mono B2.out.size)
  have L3 : Hid (SlOwn w.heap.size K a0 c0 (snls l) w3) := hL.low B2.out.size
  have LO : Hid (∀ k, a0 = some ⟨k, 0, none⟩ → k < w3.heap.size) := fun k e => (hL.lt e).2
  have HDL := Lib.hid hdl
  clear hbe hbx hby hbk hb R2 B2 K2 hO hL hdl
  obtain ⟨W3, hW3⟩ : ∃ W3, W3 = w3.alloc (.cells #[.slice a0 K c0, .int .i64 x, .int .i64 y] 28) := ⟨_, rfl⟩
  have A3 : Hid (W3.rowIs w3.heap.size 28 3 (rowN (shL (.slice a0 K c0) x y))) := by rw [hW3]; exact rowN_alloc w3 _ _
  have R3' : Hid (W3.rowIs w.heap.size 25 3 (rowN (plL n la lk fa fk wa wk))) := by rw [hW3]; exact nrow_below R3.out (nbel_alloc _ _)
  have B3' : Hid (Below w.heap.size w W3) := by rw [hW3]; exact B3.out.alloc B3.out.size _
  have L3' : Hid (SlOwn w.heap.size K a0 c0 (snls l) W3) := by rw [hW3]; exact L3.out.below (nbel_alloc _ _)
  have HW3 := Lib.hid hW3
  have X33 : Hid (W3.heap.size = w3.heap.size + 1) := by show _ = _; rw [hW3]; simp
  have X3w : Hid (w.heap.size < w3.heap.size) := R3.out.lt
  clear hW3 L3 R3 B3
  obtain ⟨⟨r0, r1, r2⟩, _⟩ := rowN3 R3'.out
  rw [HW3.out] at r0 r1 r2
  go_wp2_with fail
  rw [← HW3.out]
  refine (toPlan_any n la lk fa fk wa wk _ (H.out.below B3'.out) HS.out).mono ?_
  rintro e w4 ⟨⟨gl2, gf2, gw2, rfl, hk⟩, hb⟩
  have R4 := Lib.hid (nrow_below R3'.out hb)
  have B4 : Hid (Below w.heap.size w w4) := B3'.out.trans (hb.mono B3'.out.size)
  have K4 := Lib.hid hk
  have L4 := Lib.hid (L3'.out.below hb)
  have A4 := Lib.hid (nrow_below A3.out hb)
  have X34 : Hid (w3.heap.size ≤ w4.heap.size ∧ w.heap.size < w3.heap.size) := ⟨by have := hb.size; have := X33.out; omega, X3w.out⟩
  clear hb hk R3' B3' r0 r1 r2 L3' A3
  obtain ⟨W4, hW4⟩ : ∃ W4, W4 = w4.alloc (.cells #[.slice (some ⟨gl2, 0, none⟩) n.rn n.rn, .slice (some ⟨gf2, 0, none⟩) n.sn n.sn, .slice (some ⟨gw2, 0, none⟩) n.hn n.hn] 32) := ⟨_, rfl⟩
  have Q4 : Hid (W4.rowIs w4.heap.size 32 3 (rowN (plL n (some ⟨gl2, 0, none⟩) n.rn (some ⟨gf2, 0, none⟩) n.sn (some ⟨gw2, 0, none⟩) n.hn))) := by rw [hW4]; exact rowN_alloc w4 _ _
  have R5 : Hid (W4.rowIs w.heap.size 25 3 (rowN (plL n la lk fa fk wa wk))) := by rw [hW4]; exact nrow_below R4.out (nbel_alloc _ _)
  have B5 : Hid (Below w.heap.size w W4) := by rw [hW4]; exact B4.out.alloc B4.out.size _
  have K5 : Hid (PlBlk n W3.heap.size gl2 gf2 gw2 W4) := by rw [hW4]; exact K4.out.below (nbel_alloc _ _)
  have L5 : Hid (SlOwn w.heap.size K a0 c0 (snls l) W4) := by rw [hW4]; exact L4.out.below (nbel_alloc _ _)
  have A5 : Hid (W4.rowIs w3.heap.size 28 3 (rowN (shL (.slice a0 K c0) x y))) := by rw [hW4]; exact nrow_below A4.out (nbel_alloc _ _)
  have X45 : Hid (w4.heap.size < W4.heap.size) := Q4.out.lt
  have HW4 := Lib.hid hW4
  clear hW4 R4 B4 K4 L4 A4
  go_wp2_with fail
  rw [← HW4.out]
  have KB : Hid (gl2 < W4.heap.size ∧ gf2 < W4.heap.size ∧ gw2 < W4.heap.size) := ⟨K5.out.l.lt, K5.out.f.lt, K5.out.w.lt⟩
  refine (implLeast_any n _ _ _ _ _ _ place _ K5.out.at_ HS.out (by simp) (HG.out.below B5.out)).mono ?_
  rintro e w6 ⟨⟨v1, rfl, hO⟩, hb⟩
  rw [← HBE.out] at hO
  obtain ⟨b, c, rfl, hL⟩ := sls_own hO
  rw [← HBK.out] at hL ⊢
  rw [← HBX.out, ← HBY.out]
  obtain ⟨W6, hW6⟩ : ∃ W6, W6 = w6.alloc (.cells #[.slice b K c, .int .i64 x, .int .i64 y] 28) := ⟨_, rfl⟩
  have hb6 : Below w6.heap.size w6 W6 := by rw [hW6]; exact nbel_alloc _ _
  have A9 : W6.rowIs w6.heap.size 28 3 (rowN (shL (.slice b K c) x y)) := by rw [hW6]; exact rowN_alloc w6 _ _
  have hb46 : Below W4.heap.size W4 W6 := hb.trans (hb6.mono hb.size)
  have S6 : Hid (PL w n la lk fa fk wa wk w4.heap.size W3.heap.size gl2 gf2 gw2 (LgP w w3.heap.size W4.heap.size K a0 c0 b c (snls l) (snls l) w6.heap.size x y) W6) := by
    have h34 := X34.out
    have h45 := X45.out
    exact ⟨nrow_below R5.out hb46, nrow_below Q4.out hb46, K5.out.below hb46, B5.out.trans (hb46.mono B5.out.size), ⟨L5.out.below hb46, ⟨LO.out, by omega, hb.size, fun k e => (hL.lt e).2⟩, hL.below hb6, nrow_below A5.out hb46, A9⟩⟩
  have HW6 := Lib.hid hW6
  have X69 : Hid (W4.heap.size ≤ w6.heap.size) := hb.size
  clear hb R5 B5 K5 Q4 L5 LO hO hL HW4 hW6 hb6 hb46 A9 A5 HW3
  obtain ⟨⟨s0, s1, s2⟩, _⟩ := rowN3 S6.out.p.r6
  obtain ⟨⟨t0, t1, t2⟩, _⟩ := rowN3 S6.out.p.r9
  rw [HW6.out] at s0 s1 s2 t0 t1 t2
  go_wp2_with fail
  rw [← HW6.out]
  clear HW6 s0 s1 s2 t0 t1 t2
  generalize w6.heap.size = X9 at *
  generalize W4.heap.size = Y at *
  generalize w4.heap.size = X4 at *
  generalize W3.heap.size = XB at *
  generalize w3.heap.size = X at *
  refine (eqShutOut_same _ _ _ _ _ x y (snls l) _ S6.out.p.l1.at_ S6.out.p.l0.at_ HDL.out).mono ?_
  rintro e w6b ⟨rfl, hb⟩
  have S7 := Lib.hid (S6.out.below LgP.below hb)
  clear hb S6
  go_wp2_with fail
  refine wp_region_held_drew (S := PL w n la lk fa fk wa wk X4 XB gl2 gf2 gw2 (LgP w X Y K a0 c0 b c (snls l) (snls l) X9 x y)) (by kernel_rfl) (S7.out.below LgP.below (Below.refl _ _).drew) (fun hHeld => ?_)
  clear S7
  refine take_do (i := 0) (v := (plV n (some ⟨gl2, 0, none⟩) n.rn (some ⟨gf2, 0, none⟩) n.sn (some ⟨gw2, 0, none⟩) n.hn)) rfl (by kernel_rfl) (by kernel_rfl) (by kernel_rfl) (fun _ _ _ h => h) (by rfl) ?_ (by assumption) ?_
  · intro w hSw
    obtain ⟨⟨a0, a1, a2⟩, _⟩ := rowN3 hSw.rx
    go_simp
  simp only [Act.put, List.setIfInBounds_toArray, List.set_cons_zero, List.set_cons_succ]
  refine take_do (i := 1) (v := (plV n la lk fa fk wa wk)) rfl (by kernel_rfl) (by kernel_rfl) (by kernel_rfl) (fun _ _ _ h => h) (by rfl) ?_ (by assumption) ?_
  · intro w hSw
    obtain ⟨⟨a0, a1, a2⟩, _⟩ := rowN3 hSw.ra
    go_simp
  simp only [Act.put, List.setIfInBounds_toArray, List.set_cons_zero, List.set_cons_succ]
  refine take_call (i := 2) rfl (by kernel_rfl) (fun K2 hK => ?_)
  go_simp
  refine (toPlan_any n la lk fa fk wa wk _ (H.out.below hHeld.old) HS.out).mono ?_
  rintro e w7 ⟨⟨gl3, gf3, gw3, rfl, hk6⟩, hb6⟩
  have HK6 := Lib.hid hk6
  go_wp2_with fail
  refine hK.out _ _ (hHeld.below LgP.below hb6) (fun hHeld2 => ?_)
  clear hK hHeld hb6 hk6
  refine take_call (i := 3) rfl (by kernel_rfl) (fun K2 hK => ?_)
  go_simp
  refine (eqPlan_same n _ _ _ _ _ _ _ _ _ _ _ _ _ hHeld2.kx.at_ HK6.out.at_ HS.out).mono ?_
  rintro e w8 ⟨rfl, hb7⟩
  go_wp2_with fail
  refine hK.out _ _ (hHeld2.below LgP.below hb7) (fun hHeld => ?_)
  clear hK hHeld2 hb7
  refine take_do (i := 4) (v := (.bool false)) rfl (by kernel_rfl) (by kernel_rfl) (by kernel_rfl) (fun _ _ _ h => h) (by rfl) ?_ (by assumption) ?_
  · intro w hSw
    go_simp
  simp only [Act.put, List.setIfInBounds_toArray, List.set_cons_zero, List.set_cons_succ]
  refine wpAnyH_done (by kernel_rfl) ?_ _
  have S10 := Lib.hid hHeld
  clear hHeld HK6
  obtain ⟨⟨r0, r1, r2⟩, _⟩ := rowN3 S10.out.rx
  go_wp2_with fail
  refine (markPlan_any n XB gl2 gf2 gw2 n.rn n.sn n.hn _ S10.out.kx HS.out).mono ?_
  rintro e w11 ⟨⟨M, rfl, hM⟩, ho⟩
  clear r0 r1 r2
  have x1 := X34.out
  have x2 := X45.out
  have x3 := KB.out
  have x4 := S10.out.kx.lo
  have x6 := X33.out
  have x7 := X69.out
  have P11 : Hid (LgP w X Y K a0 c0 b c (snls l) (snls l) X9 x y w11) := by
    have p := S10.out.p
    exact p.keep (fun k _ h2 h3 => ho.block k h3 (by omega) (by omega) (by omega)) (by omega) (ho.block _ p.r9.lt (by omega) (by omega) (by omega)) (p.l1.same (fun k h1 h2 => ho.block k h2 (by omega) (by omega) (by omega)))
  have R11 : Hid (w11.rowIs w.heap.size 25 3 (rowN (plL n la lk fa fk wa wk))) := S10.out.ra.of_block (ho.block _ S10.out.ra.lt (by omega) (by omega) (by omega))
  have B11 : Hid (Below w.heap.size w w11) := S10.out.old.trans ⟨ho.os, ho.tape, ho.output, ho.size, fun k hk => ho.block k (by have := S10.out.old.size; omega) (by omega) (by omega) (by omega)⟩
  clear ho S10 x3 x4 KB
  have hM0 : ¬ (M : Int) < 0 := by omega
  obtain ⟨⟨s0, s1, s2⟩, _⟩ := rowN3 P11.out.r6
  obtain ⟨⟨t0, t1, t2⟩, _⟩ := rowN3 P11.out.r9
  go_wp2_with fail
  refine (eqShutOut_same _ _ _ _ _ x y (snls l) _ P11.out.l1.at_ P11.out.l0.at_ HDL.out).mono ?_
  rintro e w13 ⟨rfl, hb⟩
  have P13 := Lib.hid (LgP.below _ _ hb P11.out)
  have R13 := Lib.hid (nrow_below R11.out hb)
  have B13 : Hid (Below w.heap.size w w13) := B11.out.trans (hb.mono B11.out.size)
  clear hb P11 R11 B11 s0 s1 s2 t0 t1 t2
  obtain ⟨⟨t0, t1, t2⟩, _⟩ := rowN3 P13.out.r9
  go_wp2_with fail
  refine (markShutOut_any x y _ P13.out.l1 HDL.out).mono ?_
  rintro e w14 ⟨rfl, hmk, hc, hc2⟩
  have hown : ∀ k, b = some ⟨k, 0, none⟩ → Y ≤ k := fun k e => (P13.out.l1.lt e).1
  have P14 : Hid (LgP w X Y K a0 c0 b c (snls l) (mk1 1) X9 x y w14) := by
    have p := P13.out
    have pl := p.lo
    exact p.keep (fun k _ h2 h3 => hc k h3 (fun e => by have := hown k e; omega)) (by omega) (hc _ p.r9.lt (fun e => by have := pl.2.2.2 _ e; omega)) hmk
  have R14 : Hid (w14.rowIs w.heap.size 25 3 (rowN (plL n la lk fa fk wa wk))) := R13.out.of_block (hc _ R13.out.lt (fun e => by have := hown _ e; omega))
  have B14 : Hid (Below w.heap.size w w14) := B13.out.trans ⟨hc2.1, hc2.2.1, hc2.2.2.1, hc2.2.2.2, fun k hk => hc k (by have := B13.out.size; omega) (fun e => by have := hown k e; omega)⟩
  clear hmk hc hc2 hown P13 R13 B13 x1 x2 x6 x7 t0 t1 t2
  obtain ⟨⟨t0, t1, t2⟩, _⟩ := rowN3 P14.out.r9
  obtain ⟨Q, hQ⟩ : ∃ Q : Nat, Q = 1 + K := ⟨_, rfl⟩
  have HQ : Hid (1 + K = Q) := hQ.symm
  rw [← hQ]
  have hQ0 : ¬ (Q : Int) < 0 := by omega
  clear hQ
  go_wp2_with fail
  refine (heldShutOut_any x y _ P14.out.l1 HDL.out).mono ?_
  rintro e w15 ⟨rfl, hb⟩
  rw [HQ.out]
  replace R14 := Lib.hid (nrow_below R14.out hb)
  replace P14 := Lib.hid (LgP.below _ _ hb P14.out)
  replace B14 : Hid (Below w.heap.size w w15) := B14.out.trans (hb.mono B14.out.size)
  clear hb t0 t1 t2
  obtain ⟨⟨r0, r1, r2⟩, _⟩ := rowN3 R14.out
  go_wp2_with fail
  refine (toPlan_any n la lk fa fk wa wk _ (H.out.below B14.out) HS.out).mono ?_
  rintro e w16 ⟨⟨gl4, gf4, gw4, rfl, hk⟩, hb⟩
  have P16 := Lib.hid (LgP.below _ _ hb P14.out)
  have B16 : Hid (Below w.heap.size w w16) := B14.out.trans (hb.mono B14.out.size)
  have K16 := Lib.hid hk
  clear hb hk P14 B14 R14 r0 r1 r2
  go_wp2_with fail
  refine (implLeast_any n _ _ _ _ _ _ place _ K16.out.at_ HS.out (by simp) (HG.out.below B16.out)).mono ?_
  rintro e w18 ⟨⟨v1, rfl, hO⟩, hb⟩
  rw [← HBE.out] at hO
  obtain ⟨b2, c2, rfl, hL⟩ := sls_own hO
  rw [← HBK.out] at hL ⊢
  rw [← HBX.out, ← HBY.out]
  obtain ⟨W18, hW18⟩ : ∃ W18, W18 = w18.alloc (.cells #[.slice b2 K c2, .int .i64 x, .int .i64 y] 28) := ⟨_, rfl⟩
  have hb8 : Below w18.heap.size w18 W18 := by rw [hW18]; exact nbel_alloc _ _
  have P18 := Lib.hid (LgP.below _ _ hb8 (LgP.below _ _ hb P16.out))
  have B18 : Hid (Below w.heap.size w W18) := (B16.out.trans (hb.mono B16.out.size)).trans (hb8.mono (Nat.le_trans B16.out.size hb.size))
  have G18 := Lib.hid (hL.below hb8)
  have A18 : Hid (W18.rowIs w18.heap.size 28 3 (rowN (shL (.slice b2 K c2) x y))) := by rw [hW18]; exact rowN_alloc w18 _ _
  have HW18 := Lib.hid hW18
  clear hb hb8 hL hO P16 B16 K16 hW18
  obtain ⟨⟨s0, s1, s2⟩, _⟩ := rowN3 P18.out.r6
  obtain ⟨⟨u0, u1, u2⟩, _⟩ := rowN3 A18.out
  rw [HW18.out] at s0 s1 s2 u0 u1 u2
  go_wp2_with fail
  rw [← HW18.out]
  clear HW18 s0 s1 s2 u0 u1 u2
  refine (eqShutOut_same _ _ _ _ _ x y (snls l) _ G18.out.at_ P18.out.l0.at_ HDL.out).mono ?_
  rintro e w19 ⟨rfl, hb⟩
  have P19 := Lib.hid (LgP.below _ _ hb P18.out)
  have B19 : Hid (Below w.heap.size w w19) := B18.out.trans (hb.mono B18.out.size)
  clear hb P18 B18 G18
  obtain ⟨⟨t0, t1, t2⟩, _⟩ := rowN3 P19.out.r9
  go_wp2_with fail
  refine (heldShutOut_any x y _ P19.out.l1 HDL.out).mono ?_
  rintro e w20 ⟨rfl, hb⟩
  rw [HQ.out]
  replace B19 : Hid (Below w.heap.size w w20) := B19.out.trans (hb.mono B19.out.size)
  clear hb
  go_wp2_with fail
  go_ret
  exact ⟨rfl, B19.out⟩
end Go.Proofs.YtipmjobhegpdgaaGreatDoor
