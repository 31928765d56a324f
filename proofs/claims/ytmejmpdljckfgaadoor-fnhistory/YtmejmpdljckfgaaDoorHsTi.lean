/-
  The program's PointsText.
-/
import Derived.Test.YtmejmpdljckfgaaDoorHsIt
import Derived.Test.YtmejmpdljckfgaaDoorHsTs
namespace Go.Proofs.YtmejmpdljckfgaaDoor
open Go.RowKit Go.Shelf Go.Deep

attribute [local go_sem] Oper.semAt_some
namespace Hs
def flat (pre : List Nat) : List UInt8 := pre.flatMap num
theorem flat_snoc (pre : List Nat) (x : Nat) : flat (pre ++ [x]) = flat pre ++ num x := by simp [flat]
theorem flat_numL (F : Nat → Int) (n : Nat) : flat (numL F n) = cat F n := by
  induction n with
  | zero => rfl
  | succ n ih =>
    show flat (numL F n ++ [da F n, dv F n]) = cat F n ++ ptB F n
    rw [← ih]
    simp [flat, ptB]
end Hs
/-- The bytes in the making: the box, the bytes. -/
structure TxS (w : World) (gd : Nat) (v : Value) (l : List UInt8) (W : World) : Prop where
  box : W.rowIs gd 22 1 (rowN [v])
  own : W.ownsRow w.heap.size 5 1 v l.length (bV l)
  bel : Below w.heap.size w W
  lo : w.heap.size ≤ gd
theorem TxS.lp {w : World} {gd B : Nat} {v : Value} {l : List UInt8} {W W' : World} (h : TxS w gd v l W) (hm : LpMv 104 B W W') (hB : w.heap.size ≤ B) : TxS w gd v l W' := by
  refine ⟨hm.row h.box (Or.inr (by decide)), ⟨h.own.1, ?_⟩, hm.bel h.bel hB (Nat.le_refl _), h.lo⟩
  rcases h.own.2 with h2 | ⟨g, cap, cur, e1, e2, e3, e4⟩
  · exact Or.inl h2
  · have e3' : W.heap[g]? = _ := e3
    exact Or.inr ⟨g, cap, cur, e1, e2, hm.block _ _ _ _ (Array.getElem?_eq_some_iff.1 e3').1 (Or.inr (by decide)) e3', e4⟩
theorem TxS.below {w : World} {gd : Nat} {v : Value} {l : List UInt8} {W W' : World} (h : TxS w gd v l W) (hb : Below W.heap.size W W') : TxS w gd v l W' :=
  ⟨nrow_below h.box hb, hown_keep h.own (fun k _ hk => hb.block k hk), h.bel.trans (hb.mono h.bel.size), h.lo⟩
theorem tx_ne {B n gd m : Nat} {v : Value} {xs : List Value} {F : Nat → Value} {W : World} (h : W.ownsRow B 5 1 v n xs) (hb : W.rowIs gd 22 m F) : v.ownBlock ≠ some gd := by
  intro e
  rcases h.2 with ⟨rfl, _⟩ | ⟨g, cap, cur, rfl, e2, e3, e4⟩
  · cases e
  · have e4 : g = gd := by simpa [Value.ownBlock] using e
    obtain ⟨_, q1, _⟩ := hb
    have e3' : W.heap[g]? = _ := e3
    rw [e4, q1] at e3'
    cases e3'
theorem TxS.ne {w : World} {gd : Nat} {v : Value} {l : List UInt8} {W : World} (h : TxS w gd v l W) : v.ownBlock ≠ some gd := tx_ne h.own h.box
theorem lp_grown {T : TypeId} {B : Nat} {A C : World} {row : Option Nat} (hg : A.grownBy C row) (hr : ∀ r, row = some r → B ≤ r ∧ ∃ o : Obj, A.heap[r]? = some o ∧ o.isCells = false) : LpMv T B A C := by
  refine ⟨hg.os, hg.tape, hg.output, hg.size, fun k c S fr hk _ hc => (hg.block k hk (fun e => ?_)).trans hc, fun k hk hl => hg.block k hl (fun e => ?_)⟩
  · obtain ⟨_, o, ho, hcc⟩ := hr k e.symm
    rw [hc] at ho
    cases ho
    cases hcc
  · have := (hr k e.symm).1
    omega
theorem KpP.lp {T : TypeId} {n₀ B : Nat} {W A C : World} (h : KpP n₀ W A) (hm : LpMv T B A C) (hT : 104 ≠ T) (hB : n₀ ≤ B) (hW : n₀ ≤ W.heap.size) : KpP n₀ W C :=
  ⟨hm.bel h.bel hB hW, fun j c fr hc => hm.block _ _ _ _ (Array.getElem?_eq_some_iff.1 (h.pts j c fr hc)).1 (Or.inr hT) (h.pts j c fr hc)⟩
/-- A byte more. -/
theorem TxS.push {w : World} {gd : Nat} {v v' : Value} {l l' : List UInt8} {W W' : World} (h : TxS w gd v l W) (hg : W.grownBy W' v.ownBlock) (hown : W'.ownsRow w.heap.size 5 1 v' l'.length (bV l')) :
    TxS w gd v' l' (W'.setCell ⟨gd, 0, none⟩ v') ∧ W'.rowIs gd 22 1 (rowN [v]) ∧ KpP w.heap.size W (W'.setCell ⟨gd, 0, none⟩ v') ∧ KeepsOthers W (W'.setCell ⟨gd, 0, none⟩ v') := by
  have hs := h.bel.size
  have hb : W'.rowIs gd 22 1 (rowN [v]) := h.box.of_block (hg.block _ h.box.lt (fun e => h.ne e.symm))
  have ne' := tx_ne hown hb
  have hcell : ∀ k, v.ownBlock = some k → w.heap.size ≤ k ∧ ∃ c fr, W.heap[k]? = some (Obj.cells c 5 fr) := fun k e => by
    rcases h.own.2 with ⟨rfl, _⟩ | ⟨g, cap, cur, rfl, e2, e3, e4⟩
    · cases e
    · cases e; exact ⟨e2, cur, _, e3⟩
  refine ⟨⟨rowN_put hb 0 v' (by simp), hown_keep hown (fun k e hk => Below.heap_setCell _ _ _ _ (fun e' => ne' (by rw [e]; exact congrArg some e'))), (h.bel.grown hg hs (fun k e => (hcell k e).1)).setCell (p := ⟨gd, 0, none⟩) h.lo _, h.lo⟩, hb, ?_, ?_⟩
  · refine (KpP.grown hg hs (fun k e => ⟨(hcell k e).1, fun c fr hc => ?_⟩)).trans (KpP.set hb (by decide) h.lo _)
    obtain ⟨_, c2, fr2, h2⟩ := hcell k e
    rw [h2] at hc
    cases hc
  · refine (KeepsOthers.of_grownBy hg (fun j o e hj => ?_)).trans (KeepsOthers.setCell _ _ _)
    obtain ⟨_, c2, fr2, h2⟩ := hcell j e
    rw [h2] at hj
    cases hj
    rfl
set_option maxRecDepth 100000 in
set_option maxHeartbeats 4000000 in
theorem implTx_no (la : Option Addr) (n cap : Nat) (F : Nat → Int) (w : World) (h : IsAt la (n * 2) F w) (hn : n ≤ 1048576) (cr : ¬ Hs.Right F n) :
    Calls Tryd.prog 24 #[.slice la n cap] w fun e w' => e = .returned (.string ⟨(Hs.text F n).toArray⟩) ∧ Below w.heap.size w w' := by
  go_enter Tryd.func24, Tryd.ntmps24
  go_wp2_with fail
  refine (implPR_any la n cap F w h hn).mono ?_
  rintro e w1 ⟨rfl, hb⟩
  have HE := Lib.hid (Hs.text_no cr)
  rw [Mt.dB_ff cr]
  go_wp2_with fail
  go_ret
  exact ⟨by rw [HE.out]; rfl, hb⟩
set_option maxRecDepth 100000 in
set_option maxHeartbeats 8000000 in
theorem implTx_yes (la : Option Addr) (n cap : Nat) (F : Nat → Int) (w : World) (h : IsAt la (n * 2) F w) (hn : n ≤ 1048576) (cr : Hs.Right F n) :
    Calls Tryd.prog 24 #[.slice la n cap] w fun e w' => e = .returned (.string ⟨(Hs.text F n).toArray⟩) ∧ Below w.heap.size w w' := by
  have H := Lib.hid h
  have HR := Lib.hid cr
  have HAB : Hid (0 < n → ∀ b, la = some ⟨b, 0, none⟩ → b < w.heap.size) := fun h0 b e => by
    obtain ⟨b', e', z, _⟩ := h.at2 (i := 0) h0
    rw [e'] at e
    cases e
    exact World.block_lt_of_cell? _ _ z
  have HE := Lib.hid (Hs.text_yes cr)
  clear h
  refine (callsIn_wide (n := 8)).1 ?_
  refine callsIn_of_wp_marks Tryd.func24 rfl trivial ?_ rfl
  simp only [Tryd.ntmps24, List.size_toArray, List.length_cons, List.length_nil, Nat.reduceAdd, Nat.reduceSub, Array.replicate_succ, Array.replicate_zero, List.push_toArray, List.append_toArray, List.nil_append, List.cons_append]
  gi_wp2_with fail
  refine ⟨trivial, (callsIn_wide.2 (implPR_any la n cap F _ H.out hn)).mono ?_⟩
  rintro e w1 ⟨rfl, hb⟩
  have HB1 := Lib.hid hb
  clear hb
  rw [Mt.dB_tt HR.out]
  gi_wp2_with fail
  refine ⟨trivial, (callsIn_wide.2 (numsOf_any la n cap _)).mono ?_⟩
  rintro e w2 ⟨rfl, hw2⟩
  gi_wp2_with fail
  obtain ⟨i0, hi0, hz0, hz1, hz2⟩ := info_parts hinfo_u8
  obtain ⟨V, hV⟩ : ∃ V, V = (w1.alloc (.cells #[.slice none 0 0] 22)).alloc (.cells #[.slice la n cap] 59) := ⟨_, rfl⟩
  rw [← hV]
  have HBV : Hid (Below w1.heap.size w1 V) := by show Below _ _ _; rw [hV]; exact (nbel_alloc _ _).alloc (by simp) _
  have HBB : Hid (Below w.heap.size w V) := HB1.out.trans (HBV.out.mono HB1.out.size)
  have HVS : Hid (V.heap.size = w1.heap.size + 2) := by show _ = _; rw [hV]; simp
  have HS0 : Hid (TxS w w1.heap.size (.slice none 0 0) (Hs.flat []) V) := by
    refine ⟨?_, World.ownsRow_nil _ _ _ _, HBB.out, HB1.out.size⟩
    rw [hV]
    exact nrow_below (rowN_alloc w1 [.slice none 0 0] _) (nbel_alloc _ _)
  have HBX : Hid (V.cell? ⟨w1.heap.size + 1, 0, none⟩ = some (.slice la n cap)) := by
    show _ = _
    have := (rowN_alloc (w1.alloc (.cells #[.slice none 0 0] 22)) [.slice la n cap] 59).cell (i := 0) (by simp)
    rw [World.size_alloc] at this
    rw [hV]
    exact this
  obtain ⟨gd, hgd⟩ : ∃ gd, gd = w1.heap.size := ⟨_, rfl⟩
  rw [← hgd] at HVS HS0 HBX ⊢
  clear hV hgd hw2 HBV
  refine rf_law (T := 104) (by omega) (gf := 83) (lb := #[.pointer (some ⟨gd + 1, 0, none⟩)]) rfl (enters_of Tryd.func83 (by kernel_rfl) rfl)
    (encs := fun x : Nat => #[.int .u64 (x : Nat)]) (Kp := KpP w.heap.size) (S := fun xs => xs = Hs.numL F n) (Ok := fun pre x => pre.length < 600 ∧ x ≤ 4000000)
    (fun l J W hW hJ hY h0 => nums1_in 7 l (gd + 1) w.heap.size la n cap F HR.out HAB.out J W (Nat.le_trans HBB.out.size hW.size) hJ hY ((hW.cell (World.block_lt_of_cell? _ _ HBX.out)).trans HBX.out) ((H.out.below HBB.out).below hW) h0)
    KpP.trans (fun W l o o' hl h hc => KpP.put o' h hc (Nat.le_trans HBB.out.size hl)) (fun _ => rfl)
    (fun pre W => (∃ v, TxS w gd v (Hs.flat pre) W) ∧ V.heap.size ≤ W.heap.size ∧ (Hs.flat pre).length ≤ 4 * pre.length)
    (fun s A B hs hm => ⟨by obtain ⟨v, h⟩ := hs.1; exact ⟨v, h.lp hm HBB.out.size⟩, Nat.le_trans hs.2.1 hm.size, hs.2.2⟩)
    ⟨⟨_, HS0.out⟩, Nat.le_refl _, by show 0 ≤ _; omega⟩
    (fun x a' _ => a' = { tmps := #[.slice la n cap, undef, .string ⟨#[]⟩, .pointer (some ⟨gd, 0, none⟩), .int .u64 (x : Nat), undef, .slice la n cap, .bool true, .bool false, .slice la n cap, .func (.func 83) #[] #[.pointer (some ⟨gd + 1, 0, none⟩)], .int .u64 (x : Nat), undef, undef, undef, undef, undef, undef, undef, undef, undef], defers := [] })
    (fun _ _ _ _ h _ => h)
    ?assign ?body ?done
  case assign =>
    rintro l pre x W K hi hK
    gi_wp2
    exact hK _ _ (KeepsFrom.refl _ _) (KpP.refl _ _) hi rfl
  case body =>
    rintro l pre x a' W hl ⟨r, hr⟩ ⟨⟨v0, hS⟩, hsz, hfl⟩ rfl ⟨hpl, hxl⟩
    have HS := Lib.hid hS
    have HWZ := Lib.hid hsz
    have hf24 : (Hs.flat pre).length ≤ 2400 := by omega
    have HFL := Lib.hid hfl
    clear hS hsz hfl
    gi_wp2_with fail
    refine ⟨trivial, (CallsIn.inRound l (callsIn_wide.2 (bytesOf_any x W))).mono ?_⟩
    rintro e w3 ⟨rfl, hw3⟩
    gi_wp2_with fail
    obtain ⟨V2, hV2⟩ : ∃ V2, V2 = W.alloc (.cells #[.int .u64 (x : Nat)] 112) := ⟨_, rfl⟩
    rw [← hV2]
    have HB2 : Hid (Below W.heap.size W V2) := by show Below _ _ _; rw [hV2]; exact nbel_alloc _ _
    have HV2S : Hid (V2.heap.size = W.heap.size + 1) := by show _ = _; rw [hV2]; simp
    have hr2 : V2.heap[l]? = some (.loop r) := by
      rw [hV2]; exact (Below.heap_alloc W _ l (Array.getElem?_eq_some_iff.1 hr).1).trans hr
    have hbx : V2.cell? ⟨W.heap.size, 0, none⟩ = some (.int .u64 (x : Nat)) := by
      have := (rowN_alloc W [.int .u64 (x : Nat)] 112).cell (i := 0) (by simp)
      rw [hV2]; exact this
    have HK2 : Hid (KpP w.heap.size W V2) := by show KpP _ _ _; rw [hV2]; exact KpP.alloc _ HS.out.bel.size
    have HKF2 : Hid (KeepsFrom V.heap.size W V2) := by show KeepsFrom _ _ _; rw [hV2]; exact (KeepsOthers.alloc _ _).from _
    have hwW := HS.out.bel.size
    clear hV2 hw3
    refine wpIn_rangeFunc_ownN (l₀ := l) (r₀ := r) rfl hr2 (by omega) (gf := 85) (lb := #[.pointer (some ⟨W.heap.size, 0, none⟩)]) rfl trivial (enters_of Tryd.func85 (by kernel_rfl) rfl)
      ((bytes1_stops _ W.heap.size x hxl V2 hbx).inRound l) (fun _ _ => trivial) (fun _ _ _ _ _ _ _ _ => trivial) (Below.refl _ _) (fun _ => rfl)
      (fun ys W' => ((∃ v, TxS w gd v (Hs.flat pre ++ ys) W') ∧ KpP w.heap.size W W' ∧ V2.heap.size ≤ W'.heap.size) ∧ KeepsFrom V.heap.size W W')
      (fun _ _ _ => False)
      (OwnFrom.and (fun ys X Y row hs hg hr => by
        have hm1 : LpMv 104 V2.heap.size X Y := lp_grown hg hr
        have hm2 : LpMv 0 V2.heap.size X Y := lp_grown hg hr
        obtain ⟨⟨v, h1⟩, h2, h3⟩ := hs
        have := HV2S.out
        exact ⟨⟨v, h1.lp hm1 (by omega)⟩, h2.lp hm2 (by decide) (by omega) (by omega), Nat.le_trans h3 hg.size⟩) (ownFrom_keepsFrom HB2.out.size))
      (fun _ _ _ _ _ hs _ _ => hs)
      ⟨⟨⟨v0, by rw [List.append_nil]; exact HS.out.below HB2.out⟩, HK2.out, Nat.le_refl _⟩, HKF2.out⟩
      (fun y a' _ => a' = { tmps := #[.slice la n cap, undef, .string ⟨#[]⟩, .pointer (some ⟨gd, 0, none⟩), .int .u64 (x : Nat), .int .u8 (y.toNat : Int), .slice la n cap, .bool true, .bool false, .slice la n cap, .func (.func 83) #[] #[.pointer (some ⟨gd + 1, 0, none⟩)], .int .u64 (x : Nat), .int .u64 (x : Nat), .func (.func 85) #[] #[.pointer (some ⟨W.heap.size, 0, none⟩)], .int .u8 (y.toNat : Int), undef, undef, undef, undef, undef, undef], defers := [] })
      (fun _ _ _ _ _ _ hs _ _ => hs)
      ?assign2 ?body2 ?done2 ?stop2
    case assign2 =>
      rintro l2 ys y W2 K hi hK
      gi_wp2
      exact hK _ _ (KeepsFrom.refl _ _) trivial hi rfl
    case body2 =>
      rintro l2 ys y a' W2 hl2 _ ⟨⟨⟨v, hi⟩, hkp, hsz⟩, hkf⟩ rfl hyl
      have HS2 := Lib.hid hi
      have HKP := Lib.hid hkp
      have HKF := Lib.hid hkf
      have HZ2 := Lib.hid hsz
      obtain ⟨b0, f0⟩ : W2.cell? ⟨gd, 0, none⟩ = some v ∧ W2.frozen? ⟨gd, 0, none⟩ = false := ⟨hi.box.cell (by omega), hi.box.frozen 0⟩
      have hgl := hi.box.lt
      have hsz2 := hi.bel.size
      have hyl2 : ys.length < 10 := hyl
      clear hi hkp hkf hsz hyl
      have HSA := Lib.hid (HS2.out.below (nbel_alloc W2 (.cells #[.int .u8 (y.toNat : Int)] 5)))
      gi_wp2_with (gi_at_builtin; refine wpListIn_append_own _ rfl _ _ 22 rfl w.heap.size 5 i0 (.int .u8 0) 1 1 Tryd.underlying22 hi0 hz0 hz1 hz2 rfl (by decide) _ _ _ rfl HSA.out.own ⟨W2.heap.size, 0, none⟩ 1 1 [.int .u8 (y.toNat : Int)] rfl rfl ?c1 ?c2 ?c3 ?c4 ?c5 ?_)
      case c1 =>
        intro j u hj
        match j, hj with
        | 0, hj => simp at hj; subst hj; exact (rowN_alloc W2 [.int .u8 (y.toNat : Int)] 5).cell (i := 0) (by simp)
      case c2 => intro u hu; simp at hu; subst hu; rfl
      case c3 => simp; unfold maxLen; omega
      case c4 => simp; omega
      case c5 => simp; omega
      intro v' W3 hown hgrow _
      have hown2 : W3.ownsRow w.heap.size 5 1 v' (Hs.flat pre ++ (ys ++ [y])).length (bV (Hs.flat pre ++ (ys ++ [y]))) := by
        rw [← List.append_assoc, bV_app, List.length_append, List.length_append]
        exact hown
      obtain ⟨p1, p2, p3, p4⟩ := HSA.out.push hgrow hown2
      have P1 := Lib.hid p1
      have P3 : Hid (KpP w.heap.size W (W3.setCell ⟨gd, 0, none⟩ v')) := HKP.out.trans ((KpP.alloc _ hsz2).trans p3)
      have P4 : Hid (KeepsFrom V2.heap.size W2 (W3.setCell ⟨gd, 0, none⟩ v')) := ((KeepsOthers.alloc _ _).trans p4).from _
      have P5 : Hid (KeepsFrom V.heap.size W (W3.setCell ⟨gd, 0, none⟩ v')) := HKF.out.trans (((KeepsOthers.alloc _ _).trans p4).from _)
      have P6 : Hid (V2.heap.size ≤ (W3.setCell ⟨gd, 0, none⟩ v').heap.size) := Nat.le_trans HZ2.out P4.out.size
      obtain ⟨M, hM⟩ : ∃ M, M = (Hs.flat pre ++ (ys ++ [y])).length := ⟨_, rfl⟩
      obtain ⟨av, cv, rfl⟩ : ∃ a c, v' = .slice a M c := by
        rw [hM]
        rcases hown2.2 with ⟨rfl, h2⟩ | ⟨g, cap, cur, rfl, _⟩
        · exact ⟨none, 0, by rw [h2]⟩
        · exact ⟨_, _, rfl⟩
      clear hM
      clear b0 f0 hgl
      obtain ⟨b0, f0⟩ : W3.cell? ⟨gd, 0, none⟩ = some v ∧ W3.frozen? ⟨gd, 0, none⟩ = false := ⟨p2.cell (by omega), p2.frozen 0⟩
      have hgl := p2.lt
      clear p1 p2 p3 p4 hown hown2 hgrow HSA HS2 HKP HKF HZ2
      gi_wp2
      exact ⟨P4.out, trivial, ⟨⟨_, P1.out⟩, P3.out, P6.out⟩, P5.out⟩
    case done2 =>
      rintro ys W3 rfl ⟨⟨⟨v, hi⟩, hkp, hsz⟩, hkf⟩
      have hnl : (Hs.num x).length ≤ 4 := Hs.num_len 4 (by omega) (by omega)
      gi_wp2
      refine ⟨hkf, hkp, ⟨v, by rw [Hs.flat_snoc]; exact hi⟩, Nat.le_trans HWZ.out (Nat.le_trans (by have := HV2S.out; omega) hsz), ?_⟩
      rw [Hs.flat_snoc]
      have := HFL.out
      simp; omega
    case stop2 =>
      rintro c ys W3 _ h
      exact h.elim
  case done =>
    rintro D xs W hD rfl ⟨⟨v, hi⟩, hsz, hfl⟩ hK
    rw [Hs.flat_numL] at hi
    have HS := Lib.hid hi
    have HK := Lib.hid hK
    have b0 : W.cell? ⟨gd, 0, none⟩ = some v := hi.box.cell (by omega)
    have HDD := Lib.hid hD
    have hcv := strs_all hi.own
    clear hi hK hD hsz hfl
    gi_wp2_with fail
    refine ⟨by simp, .inl ⟨_, _, rfl, run_takeDeferred HK.out, ?_⟩⟩
    exact ⟨_, results_tmp rfl _ _ _, by rw [HE.out]; rfl, (LpMv.put (T := 104) (B := V.heap.size) (.deferred none) HK.out rfl HDD.out).bel HS.out.bel HBB.out.size (Nat.le_refl _)⟩
theorem implTx_any (la : Option Addr) (n cap : Nat) (F : Nat → Int) (w : World) (h : IsAt la (n * 2) F w) (hn : n ≤ 1048576) :
    Calls Tryd.prog 24 #[.slice la n cap] w fun e w' => e = .returned (.string ⟨(Hs.text F n).toArray⟩) ∧ Below w.heap.size w w' := by
  by_cases cr : Hs.Right F n
  · exact implTx_yes la n cap F w h hn cr
  · exact implTx_no la n cap F w h hn cr
end Go.Proofs.YtmejmpdljckfgaaDoor
