/-
  The law FnAlarmParts.
-/
import Derived.Test.YtmejmpdljckfgaaDoorAlDr2
import Derived.Test.YtmejmpdljckfgaaDoorAlPa
import Derived.Test.YtmejmpdljckfgaaDoorAlR1
import Derived.Test.YtmejmpdljckfgaaDoorAlR2
import Derived.Test.YtmejmpdljckfgaaDoorAlG1
import Derived.Test.YtmejmpdljckfgaaDoorEt
import Derived.Deep.DeepCutAuto
namespace Go.Proofs.YtmejmpdljckfgaaDoor
open Go Go.RowKit Go.Deep

theorem own_neG {W : World} {B n m s : Nat} {T S : TypeId} {v : Value} {ns : List Value} {x : Nat} {F : Nat → Value} (h : W.ownsRow B T s v n ns) (hr : W.rowIs x S m F) (hT : T ≠ S) {g : Nat} (hg : v.ownBlock = some g) : g ≠ x := by
  rintro rfl
  rcases h.2 with ⟨h1, _⟩ | ⟨g', cap, cur, e1, e2, e3, _⟩
  · rw [h1] at hg; simp [Value.ownBlock] at hg
  · rw [e1] at hg
    simp [Value.ownBlock] at hg
    subst hg
    obtain ⟨c2, q2, _⟩ := hr
    rw [e3] at q2
    simp at q2
    exact hT q2.2
theorem own_low {W : World} {B B' n : Nat} {e : TypeId} {v : Value} {ns : List Value} (h : W.ownsRow B e 2 v n ns) (hb : B' ≤ B) : W.ownsRow B' e 2 v n ns := by
  refine ⟨h.1, ?_⟩
  rcases h.2 with h2 | ⟨g, cap, cur, e1, e2, e3⟩
  · exact Or.inl h2
  · exact Or.inr ⟨g, cap, cur, e1, Nat.le_trans hb e2, e3⟩
/-- Numbers two by two, as a list of pairs. -/
theorem fl_of (F : Nat → Int) (n : Nat) : ∃ L : List Ln.Nt, L.length = n ∧ ∀ j, j < n * 2 → F j = Ln.fl L j := by
  refine ⟨(List.range n).map (fun i => (F (i * 2), F (i * 2 + 1))), by simp, fun j hj => ?_⟩
  rcases Nat.mod_two_eq_zero_or_one j with h | h
  · obtain ⟨i, rfl⟩ : ∃ i, j = i * 2 := ⟨j / 2, by omega⟩
    rw [Ln.fl_even]
    simp [show i < n by omega]
  · obtain ⟨i, rfl⟩ : ∃ i, j = i * 2 + 1 := ⟨j / 2, by omega⟩
    rw [Ln.fl_odd]
    simp [show i < n by omega]
/-- What stands once the answer of the run lies in its variable. -/
structure PpA (V0 : World) (X : Al.A) (n : Nat) (U : Nat → Int) (xb : Nat) (a : Option Addr) (c : Nat) (W : World) : Prop where
  bel : Below V0.heap.size V0 W
  row : W.rowIs xb 46 8 (rowN (aoL X a n c 0))
  own : RgOwn V0.heap.size n a c U W
  lo : V0.heap.size ≤ xb
structure PnA (V0 : World) (M : Al.A) (xb : Nat) (W : World) : Prop where
  bel : Below V0.heap.size V0 W
  row : W.rowIs xb 40 6 (rowN (alL M))
  lo : V0.heap.size ≤ xb
theorem RgOwn.cy {B N c : Nat} {a : Option Addr} {f : Nat → Int} {W : World} (h : RgOwn B N a c f W) : CyO 52 B (N * 2) a c f W := by
  rcases h with ⟨h1, h2, h3⟩ | h
  · exact Or.inl ⟨h1, by omega, h3⟩
  · exact Or.inr h
theorem row_ne {W : World} {x y m n : Nat} {S T : TypeId} {F G : Nat → Value} (h : W.rowIs x S m F) (k : W.rowIs y T n G) (hT : S ≠ T) : x ≠ y := by
  rintro rfl
  obtain ⟨_, q1, _⟩ := h
  obtain ⟨_, q2, _⟩ := k
  rw [q1] at q2
  simp at q2
  exact hT q2.2
/-- What stands in the law's loop: the drawn alarm and acts, the answer and its rings, the alarm now. -/
structure LqA (w : World) (X : Al.A) (L : List Ln.Nt) (la : Option Addr) (lc g xb gn : Nat) (E : Al.A) (K : Nat) (U : Nat → Int) (aN : Option Addr) (cN : Nat) (Z : Al.A) (W : World) : Prop where
  ra : W.rowIs g 40 6 (rowN (alL X))
  ls : CyO 50 w.heap.size (L.length * 2) la lc (Ln.fl L) W
  x : W.rowIs xb 46 8 (rowN (aoL E aN K cN 0))
  rg : CyO 52 w.heap.size (K * 2) aN cN U W
  nw : W.rowIs gn 40 6 (rowN (alL Z))
  lo : g < gn ∧ w.heap.size ≤ gn
  old : Below w.heap.size w W
section
variable {w : World} {X : Al.A} {L : List Ln.Nt} {la : Option Addr} {lc g xb gn : Nat} {E : Al.A} {K : Nat} {U : Nat → Int} {aN : Option Addr} {cN : Nat} {Z : Al.A} {W W' : World}
theorem LqA.below (h : LqA w X L la lc g xb gn E K U aN cN Z W) (hb : Below W.heap.size W W') : LqA w X L la lc g xb gn E K U aN cN Z W' :=
  ⟨nrow_below h.ra hb, h.ls.below hb, nrow_below h.x hb, h.rg.below hb, nrow_below h.nw hb, h.lo, h.old.trans (hb.mono h.old.size)⟩
theorem LqA.put (h : LqA w X L la lc g xb gn E K U aN cN Z W) (M : Al.A) : LqA w X L la lc g xb gn E K U aN cN M ((((((W.setCell ⟨gn, 0, none⟩ (.int .i64 M.hi)).setCell ⟨gn, 1, none⟩ (.int .i64 M.lo)).setCell ⟨gn, 2, none⟩ (.int .i64 M.dl)).setCell ⟨gn, 3, none⟩ (.int .i64 M.st)).setCell ⟨gn, 4, none⟩ (.int .i64 M.ct)).setCell ⟨gn, 5, none⟩ (.int .i64 M.sh)) := by
  have hk : ∀ k, k ≠ gn → ((((((W.setCell ⟨gn, 0, none⟩ (.int .i64 M.hi)).setCell ⟨gn, 1, none⟩ (.int .i64 M.lo)).setCell ⟨gn, 2, none⟩ (.int .i64 M.dl)).setCell ⟨gn, 3, none⟩ (.int .i64 M.st)).setCell ⟨gn, 4, none⟩ (.int .i64 M.ct)).setCell ⟨gn, 5, none⟩ (.int .i64 M.sh)).heap[k]? = W.heap[k]? := fun k hk => al6blk hk _ _ _ _ _ _
  have e1 := h.ls.ne h.nw (by decide)
  have e2 := h.rg.ne h.nw (by decide)
  refine ⟨h.ra.of_block (hk _ (by have := h.lo; omega)), h.ls.keep (fun k e _ _ => hk k (fun e3 => e1 (by rw [e, e3]))), h.x.of_block (hk _ (row_ne h.x h.nw (by decide))), h.rg.keep (fun k e _ _ => hk k (fun e3 => e2 (by rw [e, e3]))), al6put h.nw rfl _ _ _ _ _ _, h.lo, al6bel (g := gn) h.old h.lo.2 _ _ _ _ _ _⟩
end
theorem ao_code (a : Al.A) (l : Option Addr) (n c : Nat) (x : Int) (w : World) : (Instr.field 46 (aoV a l n c x) 2).run Tryd.prog w = .ok (.int .i64 x) w := by kernel_rfl
set_option maxRecDepth 100000 in
set_option maxHeartbeats 16000000 in
theorem alarmParts_law (w : World) (a : Option Addr) (len cap : Nat) (h : Bytes a len w) (hl : len ≤ 9223372036854775807) (hg : Et w) :
    Calls Tryd.prog 4 #[.slice a len cap] w fun e w' => e = .returned (.bool true) ∧ Below w.heap.size w w' := by
  have H := Lib.hid h
  have HG := Lib.hid hg
  clear h hg
  by_cases hb1 : (1048576 : Int) < (len : Int)
  · go_enter Tryd.func4, Tryd.ntmps4
    go_wp2_with fail
    go_ret
    exact ⟨rfl, Below.refl _ _⟩
  obtain ⟨i0, hi0, hz0, hz1, hz2⟩ := info_parts dainfo
  obtain ⟨j0, hj0, hy0, hy1, hy2⟩ := info_parts aoinfo
  go_enter Tryd.func4, Tryd.ntmps4
  go_wp2_with fail
  refine (drawARL_any a len cap _ H.out (by omega)).mono ?_
  rintro e w1 ⟨⟨X, la, n, lc, F, rfl, hc, hn⟩, hb⟩
  obtain ⟨L, hL, hF⟩ := fl_of F n
  replace hc := hc.congr hF
  subst hL
  have HB1 := Lib.hid hb
  obtain ⟨W, hW⟩ : ∃ W, W = w1.alloc (.cells #[.int .i64 X.hi, .int .i64 X.lo, .int .i64 X.dl, .int .i64 X.st, .int .i64 X.ct, .int .i64 X.sh] 40) := ⟨_, rfl⟩
  obtain ⟨g, hgg⟩ : ∃ g, g = w1.heap.size := ⟨_, rfl⟩
  have HR : Hid (W.rowIs g 40 6 (rowN (alL X))) := by show World.rowIs _ _ _ _ _; rw [hW, hgg]; exact rowN_alloc w1 (alL X) _
  have HB : Hid (Below w.heap.size w W) := by show Below _ _ _; rw [hW]; exact HB1.out.alloc HB1.out.size _
  have HC : Hid (CyO 50 w.heap.size (L.length * 2) la lc (Ln.fl L) W) := by show CyO _ _ _ _ _ _ _; rw [hW]; exact hc.below (nbel_alloc _ _)
  have HGW : Hid (w.heap.size ≤ g) := by show _ ≤ _; rw [hgg]; exact HB1.out.size
  have HW := Lib.hid hW
  have HGG := Lib.hid hgg
  clear hW hgg HB1 hc hb hb1 H hF
  go_wp2_with fail
  rw [← HGG.out, ← HW.out]
  clear HW HGG
  refine (specARun_any X la L.length lc (Ln.fl L) _ HC.out.at_ (by omega)).mono ?_
  rintro e w2 ⟨hE, hb⟩
  have HR2 := Lib.hid (nrow_below HR.out hb)
  have HB2 : Hid (Below w.heap.size w w2) := HB.out.trans (hb.mono HB.out.size)
  have HC2 := Lib.hid (HC.out.below hb)
  clear hb HR HB HC
  rcases hE with ⟨hno, rfl⟩ | ⟨hok, a2, c2, rfl, _⟩
  · have hcd : (Al.runC L.length != 0) = true := by unfold Al.runC; split <;> rfl
    have e1 := ao_code Al.none none 0 0 (Al.runC L.length)
    go_wp2_with fail
    go_ret
    exact ⟨rfl, HB2.out⟩
  have HOK := Lib.hid hok
  clear hok
  have e1 := ao_code (Al.run X (Ln.fl L) L.length) a2 (Al.rings X (Ln.fl L) L.length).length c2 0
  go_wp2_with fail
  clear e1
  obtain ⟨E, hE2⟩ : ∃ E, E = Al.run X (Ln.fl L) L.length := ⟨_, rfl⟩
  obtain ⟨K, hK⟩ : ∃ K, K = (Al.rings X (Ln.fl L) L.length).length := ⟨_, rfl⟩
  obtain ⟨U, hU⟩ : ∃ U, U = Ln.fl (Al.rings X (Ln.fl L) L.length) := ⟨_, rfl⟩
  rw [← hE2, ← hK]
  have HE := Lib.hid hE2
  have HK := Lib.hid hK
  have HU := Lib.hid hU
  clear hE2 hK hU
  go_cut [5] (fun q Wq => ∃ xb aN cN, q = .pointer (some ⟨xb, 0, none⟩) ∧ Hid (PpA w2 E K U xb aN cN Wq))
  case first =>
    refine wp_region_held_drew (S := fun V => Below w2.heap.size w2 V) (by kernel_rfl) (Below.refl _ _).drew (fun hHeld => ?_)
    obtain ⟨Z, hZ⟩ : ∃ Z, Z = w2.drew := ⟨_, rfl⟩
    rw [← hZ] at hHeld ⊢
    clear hZ
    refine take_do (i := 0) (v := (alV X)) rfl (by kernel_rfl) (by kernel_rfl) (by kernel_rfl) (fun _ _ _ h => h) (by rfl) ?_ (by assumption) ?_
    · intro w hSw
      obtain ⟨⟨a0, a1, a2, a3, a4, a5⟩, _⟩ := rowN6 (nrow_below HR2.out hSw)
      go_simp
    simp only [Act.put, List.setIfInBounds_toArray, List.set_cons_zero, List.set_cons_succ]
    refine take_do (i := 2) (v := (.slice la L.length lc)) rfl (by kernel_rfl) (by kernel_rfl) (by kernel_rfl) (fun _ _ _ h => h) (by rfl) ?_ (by assumption) ?_
    · intro w hSw
      go_simp
    simp only [Act.put, List.setIfInBounds_toArray, List.set_cons_zero, List.set_cons_succ]
    refine wpAnyH_ready (rs := [1, 5]) (by kernel_rfl) (by simp) (AllReadyH.cons (at_drop (i := 1) rfl) (fun K2 hK => ?_) (AllReadyH.cons (at_drop (i := 5) rfl) (fun K2 hK => ?_) (AllReadyH.nil)))
    · obtain ⟨Z1, hZ1⟩ : ∃ Z1, Z1 = Z.alloc (.cells #[] 50) := ⟨_, rfl⟩
      have hb : Below Z.heap.size Z Z1 := by rw [hZ1]; exact nbel_alloc _ _
      obtain ⟨gq, hgq⟩ : ∃ gq, gq = Z.heap.size := ⟨_, rfl⟩
      have HO : Hid (Z1.ownsRow w2.heap.size 50 2 (.slice (some ⟨gq, 0, none⟩) 0 0) (([] : List Ln.Nt).length) (nvs [])) := by show World.ownsRow _ _ _ _ _ _ _; rw [hZ1, hgq]; exact own_low (World.ownsRow_made (e := 50) (size := 2) Z #[] 0 (Nat.le_refl _) (Nat.zero_le _) rfl) hHeld.size
      go_simp
      rw [← hZ1, ← hgq]
      clear hZ1 hgq
      refine hK.out _ _ (hHeld.trans (hb.mono hHeld.size)) (fun hHeld2 => ?_)
      clear hK hHeld hb
      have hHeld := hHeld2
      clear hHeld2
      refine wpAnyH_ready (rs := [3, 5]) (by kernel_rfl) (by simp) (AllReadyH.cons (at_drop (i := 3) rfl) (fun K2 hK => ?_) (AllReadyH.cons (at_drop (i := 5) rfl) (fun K2 hK => ?_) (AllReadyH.nil)))
      · have HMI : Hid (IsIn la (L.length * 2) (Ln.fl L) Z1) := (HC2.out.below hHeld).at_.in_
        refine step_append_ns rfl (.tmp 24) (.tmp 25) 41 rfl 50 i0 (.agg #[.int .i64 0, .int .i64 0]) 16 Tryd.underlying41 hi0 hz0 hz1 hz2 rfl w2.heap.size (.slice (some ⟨gq, 0, none⟩) 0 0) [] L rfl HO.out la lc rfl HMI.out (by unfold maxLen; simp; omega) (by simp; omega) hHeld.size ?_
        intro vP Z2 hown hgrow
        obtain ⟨aP, cP, rfl, hcy⟩ := cyo_own (l := L) (by simpa using hown)
        have HP := Lib.hid hcy
        clear hown hcy HMI
        refine hK.out _ _ (hHeld.grown hgrow hHeld.size (fun k e => (World.ownsRow.lt HO.out k e).1)) (fun hHeld2 => ?_)
        clear hK hHeld hgrow HO
        have hHeld := hHeld2
        clear hHeld2
        simp only [Act.put, List.setIfInBounds_toArray, List.set_cons_zero, List.set_cons_succ]
        refine wpAnyH_ready (rs := [4, 5]) (by kernel_rfl) (by simp) (AllReadyH.cons (at_drop (i := 4) rfl) (fun K2 hK => ?_) (AllReadyH.cons (at_drop (i := 5) rfl) (fun K2 hK => ?_) (AllReadyH.nil)))
        · go_simp
          refine (implARun_any X aP L.length cP (Ln.fl L) _ HP.out.at_ (by omega) ((HG.out.below HB2.out).below hHeld)).mono ?_
          rintro e Z3 ⟨hE, hb⟩
          rcases hE with ⟨hno, _⟩ | ⟨_, aN, cN, rfl, hown⟩
          · exact absurd HOK.out hno
          rw [← HE.out, ← HK.out]
          rw [← HK.out, ← HU.out] at hown
          have HOW := Lib.hid (hown.low hHeld.size)
          clear hown HP
          go_wp2_with fail
          refine hK.out _ _ (hHeld.trans (hb.mono hHeld.size)) (fun hHeld2 => ?_)
          clear hK hHeld hb
          have hHeld := hHeld2
          clear hHeld2
          refine wpAnyH_ready (rs := [5]) (by kernel_rfl) (by simp) (AllReadyH.cons (at_drop (i := 5) rfl) (fun K2 hK => ?_) (AllReadyH.nil))
          obtain ⟨Z4, hZ4⟩ : ∃ Z4, Z4 = Z3.alloc (.cells #[.int .i64 0, .int .i64 0, .int .i64 0, .int .i64 0, .int .i64 0, .int .i64 0, .slice none 0 0, .int .i64 0] 46) := ⟨_, rfl⟩
          have hb : Below Z3.heap.size Z3 Z4 := by rw [hZ4]; exact nbel_alloc _ _
          have HV : Hid (Z4.rowIs Z3.heap.size 46 8 (rowN [.int .i64 0, .int .i64 0, .int .i64 0, .int .i64 0, .int .i64 0, .int .i64 0, .slice none 0 0, .int .i64 0])) := by show World.rowIs _ _ _ _ _; rw [hZ4]; exact rowN_alloc _ _ _
          obtain ⟨xb, hxb⟩ : ∃ xb, xb = Z3.heap.size := ⟨_, rfl⟩
          rw [← hxb] at HV
          have HXL : Hid (w2.heap.size ≤ xb) := by show _ ≤ _; rw [hxb]; exact hHeld.size
          have HOW2 := Lib.hid (HOW.out.below hb)
          clear HOW
          have HOW := HOW2
          clear HOW2
          go_simp
          rw [← hZ4, ← hxb]
          clear hZ4
          refine hK.out _ _ (hHeld.trans (hb.mono hHeld.size)) (fun hHeld2 => ?_)
          clear hK hHeld hxb hb
          have hHeld := hHeld2
          clear hHeld2
          have zr := al8put HV.out rfl (.int .i64 E.hi) (.int .i64 E.lo) (.int .i64 E.dl) (.int .i64 E.st) (.int .i64 E.ct) (.int .i64 E.sh) (.slice aN K cN) (.int .i64 0)
          have zk := fun (k : Nat) (hk : k ≠ xb) => al8blk (W := Z4) hk (.int .i64 E.hi) (.int .i64 E.lo) (.int .i64 E.dl) (.int .i64 E.st) (.int .i64 E.ct) (.int .i64 E.sh) (.slice aN K cN) (.int .i64 0)
          have zb := al8bel (g := xb) hHeld HXL.out (.int .i64 E.hi) (.int .i64 E.lo) (.int .i64 E.dl) (.int .i64 E.st) (.int .i64 E.ct) (.int .i64 E.sh) (.slice aN K cN) (.int .i64 0)
          obtain ⟨⟨o0, o1, o2, o3, o4, o5, o6, o7⟩, z0, z1, z2, z3, z4, z5, z6, z7⟩ := rowN8 HV.out
          have hol := HV.out.lt
          refine take_call (i := 6) rfl (by kernel_rfl) (fun K2 hK => ?_)
          go_simp
          clear o0 o1 o2 o3 o4 o5 o6 o7 z0 z1 z2 z3 z4 z5 z6 z7
          have zo : RgOwn w2.heap.size K aN cN U _ := HOW.out.same (fun k e _ => zk k (HOW.out.ne HV.out e))
          generalize ((((((((Z4).setCell ⟨xb, 0, none⟩ (.int .i64 E.hi)).setCell ⟨xb, 1, none⟩ (.int .i64 E.lo)).setCell ⟨xb, 2, none⟩ (.int .i64 E.dl)).setCell ⟨xb, 3, none⟩ (.int .i64 E.st)).setCell ⟨xb, 4, none⟩ (.int .i64 E.ct)).setCell ⟨xb, 5, none⟩ (.int .i64 E.sh)).setCell ⟨xb, 6, none⟩ (.slice aN K cN)).setCell ⟨xb, 7, none⟩ (.int .i64 0) = Wz at zr zk zb zo ⊢
          refine hK.out _ _ zb (fun hHeld2 => ?_)
          clear hK hHeld hHeld2
          refine wpAnyH_done (by kernel_rfl) ?_ _
          have HPR : Hid (PpA w2 E K U xb aN cN Wz) := ⟨zb, zr, zo, HXL.out⟩
          clear zo
          clear zr zk zb
          go_wp2_with fail
          go_meet
          case rel => exact ⟨xb, aN, cN, rfl, HPR⟩
        · obtain ⟨Z3, hZ3⟩ : ∃ Z3, Z3 = Z2.alloc (.cells #[.int .i64 0, .int .i64 0, .int .i64 0, .int .i64 0, .int .i64 0, .int .i64 0, .slice none 0 0, .int .i64 0] 46) := ⟨_, rfl⟩
          have hb : Below Z2.heap.size Z2 Z3 := by rw [hZ3]; exact nbel_alloc _ _
          have HV : Hid (Z3.rowIs Z2.heap.size 46 8 (rowN [.int .i64 0, .int .i64 0, .int .i64 0, .int .i64 0, .int .i64 0, .int .i64 0, .slice none 0 0, .int .i64 0])) := by show World.rowIs _ _ _ _ _; rw [hZ3]; exact rowN_alloc _ _ _
          obtain ⟨xb, hxb⟩ : ∃ xb, xb = Z2.heap.size := ⟨_, rfl⟩
          rw [← hxb] at HV
          have HXL : Hid (w2.heap.size ≤ xb) := by show _ ≤ _; rw [hxb]; exact hHeld.size
          have HP2 := Lib.hid (HP.out.below hb)
          clear HP
          have HP := HP2
          clear HP2
          go_simp
          rw [← hZ3, ← hxb]
          clear hZ3
          refine hK.out _ _ (hHeld.trans (hb.mono hHeld.size)) (fun hHeld2 => ?_)
          clear hK hHeld hxb hb
          have hHeld := hHeld2
          clear hHeld2
          refine wpAnyH_ready (rs := [4]) (by kernel_rfl) (by simp) (AllReadyH.cons (at_drop (i := 4) rfl) (fun K2 hK => ?_) (AllReadyH.nil))
          go_simp
          refine (implARun_any X aP L.length cP (Ln.fl L) _ HP.out.at_ (by omega) ((HG.out.below HB2.out).below hHeld)).mono ?_
          rintro e Z4 ⟨hE, hb⟩
          rcases hE with ⟨hno, _⟩ | ⟨_, aN, cN, rfl, hown⟩
          · exact absurd HOK.out hno
          rw [← HE.out, ← HK.out]
          rw [← HK.out, ← HU.out] at hown
          have HOW := Lib.hid (hown.low hHeld.size)
          clear hown HP
          have HV2 := Lib.hid (nrow_below HV.out hb)
          clear HV
          have HV := HV2
          clear HV2
          go_wp2_with fail
          refine hK.out _ _ (hHeld.trans (hb.mono hHeld.size)) (fun hHeld2 => ?_)
          clear hK hHeld hb
          have hHeld := hHeld2
          clear hHeld2
          have zr := al8put HV.out rfl (.int .i64 E.hi) (.int .i64 E.lo) (.int .i64 E.dl) (.int .i64 E.st) (.int .i64 E.ct) (.int .i64 E.sh) (.slice aN K cN) (.int .i64 0)
          have zk := fun (k : Nat) (hk : k ≠ xb) => al8blk (W := Z4) hk (.int .i64 E.hi) (.int .i64 E.lo) (.int .i64 E.dl) (.int .i64 E.st) (.int .i64 E.ct) (.int .i64 E.sh) (.slice aN K cN) (.int .i64 0)
          have zb := al8bel (g := xb) hHeld HXL.out (.int .i64 E.hi) (.int .i64 E.lo) (.int .i64 E.dl) (.int .i64 E.st) (.int .i64 E.ct) (.int .i64 E.sh) (.slice aN K cN) (.int .i64 0)
          obtain ⟨⟨o0, o1, o2, o3, o4, o5, o6, o7⟩, z0, z1, z2, z3, z4, z5, z6, z7⟩ := rowN8 HV.out
          have hol := HV.out.lt
          refine take_call (i := 6) rfl (by kernel_rfl) (fun K2 hK => ?_)
          go_simp
          clear o0 o1 o2 o3 o4 o5 o6 o7 z0 z1 z2 z3 z4 z5 z6 z7
          have zo : RgOwn w2.heap.size K aN cN U _ := HOW.out.same (fun k e _ => zk k (HOW.out.ne HV.out e))
          generalize ((((((((Z4).setCell ⟨xb, 0, none⟩ (.int .i64 E.hi)).setCell ⟨xb, 1, none⟩ (.int .i64 E.lo)).setCell ⟨xb, 2, none⟩ (.int .i64 E.dl)).setCell ⟨xb, 3, none⟩ (.int .i64 E.st)).setCell ⟨xb, 4, none⟩ (.int .i64 E.ct)).setCell ⟨xb, 5, none⟩ (.int .i64 E.sh)).setCell ⟨xb, 6, none⟩ (.slice aN K cN)).setCell ⟨xb, 7, none⟩ (.int .i64 0) = Wz at zr zk zb zo ⊢
          refine hK.out _ _ zb (fun hHeld2 => ?_)
          clear hK hHeld hHeld2
          refine wpAnyH_done (by kernel_rfl) ?_ _
          have HPR : Hid (PpA w2 E K U xb aN cN Wz) := ⟨zb, zr, zo, HXL.out⟩
          clear zo
          clear zr zk zb
          go_wp2_with fail
          go_meet
          case rel => exact ⟨xb, aN, cN, rfl, HPR⟩
      · obtain ⟨Z2, hZ2⟩ : ∃ Z2, Z2 = Z1.alloc (.cells #[.int .i64 0, .int .i64 0, .int .i64 0, .int .i64 0, .int .i64 0, .int .i64 0, .slice none 0 0, .int .i64 0] 46) := ⟨_, rfl⟩
        have hb : Below Z1.heap.size Z1 Z2 := by rw [hZ2]; exact nbel_alloc _ _
        have HV : Hid (Z2.rowIs Z1.heap.size 46 8 (rowN [.int .i64 0, .int .i64 0, .int .i64 0, .int .i64 0, .int .i64 0, .int .i64 0, .slice none 0 0, .int .i64 0])) := by show World.rowIs _ _ _ _ _; rw [hZ2]; exact rowN_alloc _ _ _
        obtain ⟨xb, hxb⟩ : ∃ xb, xb = Z1.heap.size := ⟨_, rfl⟩
        rw [← hxb] at HV
        have HXL : Hid (w2.heap.size ≤ xb) := by show _ ≤ _; rw [hxb]; exact hHeld.size
        have HO2 := Lib.hid (own_far HO.out (fun k _ hk => hb.block k hk))
        clear HO
        have HO := HO2
        clear HO2
        go_simp
        rw [← hZ2, ← hxb]
        clear hZ2
        refine hK.out _ _ (hHeld.trans (hb.mono hHeld.size)) (fun hHeld2 => ?_)
        clear hK hHeld hxb hb
        have hHeld := hHeld2
        clear hHeld2
        refine wpAnyH_ready (rs := [3]) (by kernel_rfl) (by simp) (AllReadyH.cons (at_drop (i := 3) rfl) (fun K2 hK => ?_) (AllReadyH.nil))
        have HMI : Hid (IsIn la (L.length * 2) (Ln.fl L) Z2) := (HC2.out.below hHeld).at_.in_
        refine step_append_ns rfl (.tmp 24) (.tmp 25) 41 rfl 50 i0 (.agg #[.int .i64 0, .int .i64 0]) 16 Tryd.underlying41 hi0 hz0 hz1 hz2 rfl w2.heap.size (.slice (some ⟨gq, 0, none⟩) 0 0) [] L rfl HO.out la lc rfl HMI.out (by unfold maxLen; simp; omega) (by simp; omega) hHeld.size ?_
        intro vP Z3 hown hgrow
        obtain ⟨aP, cP, rfl, hcy⟩ := cyo_own (l := L) (by simpa using hown)
        have HP := Lib.hid hcy
        clear hown hcy HMI
        have HV2 := Lib.hid (HV.out.of_block (hgrow.block _ HV.out.lt (fun e => own_neG HO.out HV.out (by decide) e.symm rfl)))
        clear HV
        have HV := HV2
        clear HV2
        refine hK.out _ _ (hHeld.grown hgrow hHeld.size (fun k e => (World.ownsRow.lt HO.out k e).1)) (fun hHeld2 => ?_)
        clear hK hHeld hgrow HO
        have hHeld := hHeld2
        clear hHeld2
        simp only [Act.put, List.setIfInBounds_toArray, List.set_cons_zero, List.set_cons_succ]
        refine wpAnyH_ready (rs := [4]) (by kernel_rfl) (by simp) (AllReadyH.cons (at_drop (i := 4) rfl) (fun K2 hK => ?_) (AllReadyH.nil))
        go_simp
        refine (implARun_any X aP L.length cP (Ln.fl L) _ HP.out.at_ (by omega) ((HG.out.below HB2.out).below hHeld)).mono ?_
        rintro e Z4 ⟨hE, hb⟩
        rcases hE with ⟨hno, _⟩ | ⟨_, aN, cN, rfl, hown⟩
        · exact absurd HOK.out hno
        rw [← HE.out, ← HK.out]
        rw [← HK.out, ← HU.out] at hown
        have HOW := Lib.hid (hown.low hHeld.size)
        clear hown HP
        have HV2 := Lib.hid (nrow_below HV.out hb)
        clear HV
        have HV := HV2
        clear HV2
        go_wp2_with fail
        refine hK.out _ _ (hHeld.trans (hb.mono hHeld.size)) (fun hHeld2 => ?_)
        clear hK hHeld hb
        have hHeld := hHeld2
        clear hHeld2
        have zr := al8put HV.out rfl (.int .i64 E.hi) (.int .i64 E.lo) (.int .i64 E.dl) (.int .i64 E.st) (.int .i64 E.ct) (.int .i64 E.sh) (.slice aN K cN) (.int .i64 0)
        have zk := fun (k : Nat) (hk : k ≠ xb) => al8blk (W := Z4) hk (.int .i64 E.hi) (.int .i64 E.lo) (.int .i64 E.dl) (.int .i64 E.st) (.int .i64 E.ct) (.int .i64 E.sh) (.slice aN K cN) (.int .i64 0)
        have zb := al8bel (g := xb) hHeld HXL.out (.int .i64 E.hi) (.int .i64 E.lo) (.int .i64 E.dl) (.int .i64 E.st) (.int .i64 E.ct) (.int .i64 E.sh) (.slice aN K cN) (.int .i64 0)
        obtain ⟨⟨o0, o1, o2, o3, o4, o5, o6, o7⟩, z0, z1, z2, z3, z4, z5, z6, z7⟩ := rowN8 HV.out
        have hol := HV.out.lt
        refine take_call (i := 6) rfl (by kernel_rfl) (fun K2 hK => ?_)
        go_simp
        clear o0 o1 o2 o3 o4 o5 o6 o7 z0 z1 z2 z3 z4 z5 z6 z7
        have zo : RgOwn w2.heap.size K aN cN U _ := HOW.out.same (fun k e _ => zk k (HOW.out.ne HV.out e))
        generalize ((((((((Z4).setCell ⟨xb, 0, none⟩ (.int .i64 E.hi)).setCell ⟨xb, 1, none⟩ (.int .i64 E.lo)).setCell ⟨xb, 2, none⟩ (.int .i64 E.dl)).setCell ⟨xb, 3, none⟩ (.int .i64 E.st)).setCell ⟨xb, 4, none⟩ (.int .i64 E.ct)).setCell ⟨xb, 5, none⟩ (.int .i64 E.sh)).setCell ⟨xb, 6, none⟩ (.slice aN K cN)).setCell ⟨xb, 7, none⟩ (.int .i64 0) = Wz at zr zk zb zo ⊢
        refine hK.out _ _ zb (fun hHeld2 => ?_)
        clear hK hHeld hHeld2
        refine wpAnyH_done (by kernel_rfl) ?_ _
        have HPR : Hid (PpA w2 E K U xb aN cN Wz) := ⟨zb, zr, zo, HXL.out⟩
        clear zo
        clear zr zk zb
        go_wp2_with fail
        go_meet
        case rel => exact ⟨xb, aN, cN, rfl, HPR⟩
    · obtain ⟨Z1, hZ1⟩ : ∃ Z1, Z1 = Z.alloc (.cells #[.int .i64 0, .int .i64 0, .int .i64 0, .int .i64 0, .int .i64 0, .int .i64 0, .slice none 0 0, .int .i64 0] 46) := ⟨_, rfl⟩
      have hb : Below Z.heap.size Z Z1 := by rw [hZ1]; exact nbel_alloc _ _
      have HV : Hid (Z1.rowIs Z.heap.size 46 8 (rowN [.int .i64 0, .int .i64 0, .int .i64 0, .int .i64 0, .int .i64 0, .int .i64 0, .slice none 0 0, .int .i64 0])) := by show World.rowIs _ _ _ _ _; rw [hZ1]; exact rowN_alloc _ _ _
      obtain ⟨xb, hxb⟩ : ∃ xb, xb = Z.heap.size := ⟨_, rfl⟩
      rw [← hxb] at HV
      have HXL : Hid (w2.heap.size ≤ xb) := by show _ ≤ _; rw [hxb]; exact hHeld.size
      go_simp
      rw [← hZ1, ← hxb]
      clear hZ1
      refine hK.out _ _ (hHeld.trans (hb.mono hHeld.size)) (fun hHeld2 => ?_)
      clear hK hHeld hxb hb
      have hHeld := hHeld2
      clear hHeld2
      refine wpAnyH_ready (rs := [1]) (by kernel_rfl) (by simp) (AllReadyH.cons (at_drop (i := 1) rfl) (fun K2 hK => ?_) (AllReadyH.nil))
      obtain ⟨Z2, hZ2⟩ : ∃ Z2, Z2 = Z1.alloc (.cells #[] 50) := ⟨_, rfl⟩
      have hb : Below Z1.heap.size Z1 Z2 := by rw [hZ2]; exact nbel_alloc _ _
      obtain ⟨gq, hgq⟩ : ∃ gq, gq = Z1.heap.size := ⟨_, rfl⟩
      have HO : Hid (Z2.ownsRow w2.heap.size 50 2 (.slice (some ⟨gq, 0, none⟩) 0 0) (([] : List Ln.Nt).length) (nvs [])) := by show World.ownsRow _ _ _ _ _ _ _; rw [hZ2, hgq]; exact own_low (World.ownsRow_made (e := 50) (size := 2) Z1 #[] 0 (Nat.le_refl _) (Nat.zero_le _) rfl) hHeld.size
      go_simp
      rw [← hZ2, ← hgq]
      clear hZ2 hgq
      have HV2 := Lib.hid (nrow_below HV.out hb)
      clear HV
      have HV := HV2
      clear HV2
      refine hK.out _ _ (hHeld.trans (hb.mono hHeld.size)) (fun hHeld2 => ?_)
      clear hK hHeld hb
      have hHeld := hHeld2
      clear hHeld2
      refine wpAnyH_ready (rs := [3]) (by kernel_rfl) (by simp) (AllReadyH.cons (at_drop (i := 3) rfl) (fun K2 hK => ?_) (AllReadyH.nil))
      have HMI : Hid (IsIn la (L.length * 2) (Ln.fl L) Z2) := (HC2.out.below hHeld).at_.in_
      refine step_append_ns rfl (.tmp 24) (.tmp 25) 41 rfl 50 i0 (.agg #[.int .i64 0, .int .i64 0]) 16 Tryd.underlying41 hi0 hz0 hz1 hz2 rfl w2.heap.size (.slice (some ⟨gq, 0, none⟩) 0 0) [] L rfl HO.out la lc rfl HMI.out (by unfold maxLen; simp; omega) (by simp; omega) hHeld.size ?_
      intro vP Z3 hown hgrow
      obtain ⟨aP, cP, rfl, hcy⟩ := cyo_own (l := L) (by simpa using hown)
      have HP := Lib.hid hcy
      clear hown hcy HMI
      have HV2 := Lib.hid (HV.out.of_block (hgrow.block _ HV.out.lt (fun e => own_neG HO.out HV.out (by decide) e.symm rfl)))
      clear HV
      have HV := HV2
      clear HV2
      refine hK.out _ _ (hHeld.grown hgrow hHeld.size (fun k e => (World.ownsRow.lt HO.out k e).1)) (fun hHeld2 => ?_)
      clear hK hHeld hgrow HO
      have hHeld := hHeld2
      clear hHeld2
      simp only [Act.put, List.setIfInBounds_toArray, List.set_cons_zero, List.set_cons_succ]
      refine wpAnyH_ready (rs := [4]) (by kernel_rfl) (by simp) (AllReadyH.cons (at_drop (i := 4) rfl) (fun K2 hK => ?_) (AllReadyH.nil))
      go_simp
      refine (implARun_any X aP L.length cP (Ln.fl L) _ HP.out.at_ (by omega) ((HG.out.below HB2.out).below hHeld)).mono ?_
      rintro e Z4 ⟨hE, hb⟩
      rcases hE with ⟨hno, _⟩ | ⟨_, aN, cN, rfl, hown⟩
      · exact absurd HOK.out hno
      rw [← HE.out, ← HK.out]
      rw [← HK.out, ← HU.out] at hown
      have HOW := Lib.hid (hown.low hHeld.size)
      clear hown HP
      have HV2 := Lib.hid (nrow_below HV.out hb)
      clear HV
      have HV := HV2
      clear HV2
      go_wp2_with fail
      refine hK.out _ _ (hHeld.trans (hb.mono hHeld.size)) (fun hHeld2 => ?_)
      clear hK hHeld hb
      have hHeld := hHeld2
      clear hHeld2
      have zr := al8put HV.out rfl (.int .i64 E.hi) (.int .i64 E.lo) (.int .i64 E.dl) (.int .i64 E.st) (.int .i64 E.ct) (.int .i64 E.sh) (.slice aN K cN) (.int .i64 0)
      have zk := fun (k : Nat) (hk : k ≠ xb) => al8blk (W := Z4) hk (.int .i64 E.hi) (.int .i64 E.lo) (.int .i64 E.dl) (.int .i64 E.st) (.int .i64 E.ct) (.int .i64 E.sh) (.slice aN K cN) (.int .i64 0)
      have zb := al8bel (g := xb) hHeld HXL.out (.int .i64 E.hi) (.int .i64 E.lo) (.int .i64 E.dl) (.int .i64 E.st) (.int .i64 E.ct) (.int .i64 E.sh) (.slice aN K cN) (.int .i64 0)
      obtain ⟨⟨o0, o1, o2, o3, o4, o5, o6, o7⟩, z0, z1, z2, z3, z4, z5, z6, z7⟩ := rowN8 HV.out
      have hol := HV.out.lt
      refine take_call (i := 6) rfl (by kernel_rfl) (fun K2 hK => ?_)
      go_simp
      clear o0 o1 o2 o3 o4 o5 o6 o7 z0 z1 z2 z3 z4 z5 z6 z7
      have zo : RgOwn w2.heap.size K aN cN U _ := HOW.out.same (fun k e _ => zk k (HOW.out.ne HV.out e))
      generalize ((((((((Z4).setCell ⟨xb, 0, none⟩ (.int .i64 E.hi)).setCell ⟨xb, 1, none⟩ (.int .i64 E.lo)).setCell ⟨xb, 2, none⟩ (.int .i64 E.dl)).setCell ⟨xb, 3, none⟩ (.int .i64 E.st)).setCell ⟨xb, 4, none⟩ (.int .i64 E.ct)).setCell ⟨xb, 5, none⟩ (.int .i64 E.sh)).setCell ⟨xb, 6, none⟩ (.slice aN K cN)).setCell ⟨xb, 7, none⟩ (.int .i64 0) = Wz at zr zk zb zo ⊢
      refine hK.out _ _ zb (fun hHeld2 => ?_)
      clear hK hHeld hHeld2
      refine wpAnyH_done (by kernel_rfl) ?_ _
      have HPR : Hid (PpA w2 E K U xb aN cN Wz) := ⟨zb, zr, zo, HXL.out⟩
      clear zo
      clear zr zk zb
      go_wp2_with fail
      go_meet
      case rel => exact ⟨xb, aN, cN, rfl, HPR⟩
  case rest =>
    obtain ⟨xb, aN, cN, rfl, hPR⟩ := hcut
    obtain ⟨W3, hW3⟩ : ∃ W3, W3 = wc := ⟨_, rfl⟩
    rw [← hW3] at hPR ⊢
    clear hW3
    have HR3 := Lib.hid (nrow_below HR2.out hPR.out.bel)
    obtain ⟨W4, hW4⟩ : ∃ W4, W4 = W3.alloc (.cells #[.int .i64 X.hi, .int .i64 X.lo, .int .i64 X.dl, .int .i64 X.st, .int .i64 X.ct, .int .i64 X.sh] 40) := ⟨_, rfl⟩
    obtain ⟨gn, hgn⟩ : ∃ gn, gn = W3.heap.size := ⟨_, rfl⟩
    have HS0 : Hid (LqA w X L la lc g xb gn E K U aN cN X W4) := by
      have q := hPR.out
      have b3 : Below W3.heap.size W3 W4 := by rw [hW4]; exact nbel_alloc _ _
      have h3 := HB2.out.trans (q.bel.mono HB2.out.size)
      refine ⟨nrow_below HR3.out b3, (HC2.out.below q.bel).below b3, nrow_below q.row b3, (q.own.cy.low HB2.out.size).below b3, by rw [hW4, hgn]; exact rowN_alloc W3 (alL X) _, ⟨by rw [hgn]; exact HR3.out.lt, by rw [hgn]; exact h3.size⟩, h3.trans (b3.mono h3.size)⟩
    have HW4 := Lib.hid hW4
    have HGN := Lib.hid hgn
    clear hPR hW4 hgn HR2 HB2 HC2
    obtain ⟨⟨x0, x1, x2, x3, x4, x5⟩, _⟩ := rowN6 HR3.out
    go_wp2_with fail
    rw [← HW4.out, ← HGN.out]
    clear x0 x1 x2 x3 x4 x5 HW4 HGN HR3
    go_loopw [7, 8] (fun av iv wr => ∃ (i : Nat), i ≤ L.length ∧ av = .int .i64 ((Al.rings X (Ln.fl L) i).length : Nat) ∧ iv = .int .i64 i ∧ Hid (LqA w X L la lc g xb gn E K U aN cN (Al.run X (Ln.fl L) i) wr)) (fun _ iv _ => L.length - (intOf iv).toNat)
    case atStart => exact ⟨0, Nat.zero_le _, rfl, rfl, HS0⟩
    case round =>
      obtain ⟨i, hi, rfl, rfl, hS⟩ := hrel
      clear HS0
      obtain ⟨r, hr⟩ : ∃ r, r = (Al.rings X (Ln.fl L) i).length := ⟨_, rfl⟩
      obtain ⟨A0, hZ⟩ : ∃ A0, A0 = Al.run X (Ln.fl L) i := ⟨_, rfl⟩
      have HZ := Lib.hid hZ
      have Hr := Lib.hid hr
      rw [← hr]
      rw [← hZ] at hS
      clear hr hZ
      by_cases hlt : i < L.length
      · have hltz : (i : Int) < (L.length : Int) := by omega
        obtain ⟨p, hp⟩ : ∃ p, p = Ln.fl L (i * 2) := ⟨_, rfl⟩
        obtain ⟨q, hq⟩ : ∃ q, q = Ln.fl L (i * 2 + 1) := ⟨_, rfl⟩
        obtain ⟨M, hM⟩ : ∃ M, M = Al.meet A0 p q := ⟨_, rfl⟩
        have HAM : Hid (Al.act A0 p q = M) := by
          show _ = M
          rw [hM, Al.act_yes (by rw [HZ.out]; exact Al.run_right HOK.out.2.1 _ i) (by rw [hp, hq]; exact HOK.out.2.2 i hlt)]
        have HM2 : Hid (Al.run X (Ln.fl L) (i + 1) = M) := by show Al.meet _ _ _ = M; rw [hM, hp, hq, HZ.out]
        have HP := Lib.hid hp
        have HQ := Lib.hid hq
        clear hp hq hM
        obtain ⟨b, eb, _, _⟩ := hS.out.ls.at_.at2 hlt
        subst eb
        go_wp2_with fail
        go_cut [9] (fun q Wq => ∃ xb , q = .pointer (some ⟨xb, 0, none⟩) ∧ Hid (PnA wr M xb Wq))
        case first =>
          refine wp_region_held_drew (S := fun V => Below wr.heap.size wr V) (by kernel_rfl) (Below.refl _ _).drew (fun hHeld => ?_)
          obtain ⟨Z, hZ⟩ : ∃ Z, Z = wr.drew := ⟨_, rfl⟩
          rw [← hZ] at hHeld ⊢
          clear hZ
          refine take_do (i := 0) (v := (alV A0)) rfl (by kernel_rfl) (by kernel_rfl) (by kernel_rfl) (fun _ _ _ h => h) (by rfl) ?_ (by assumption) ?_
          · intro w hSw
            obtain ⟨⟨a0, a1, a2, a3, a4, a5⟩, _⟩ := rowN6 (nrow_below hS.out.nw hSw)
            go_simp
          simp only [Act.put, List.setIfInBounds_toArray, List.set_cons_zero, List.set_cons_succ]
          refine take_do (i := 1) (v := (.slice (some ⟨b, 0, none⟩) L.length lc)) rfl (by kernel_rfl) (by kernel_rfl) (by kernel_rfl) (fun _ _ _ h => h) (by rfl) ?_ (by assumption) ?_
          · intro w hSw
            go_simp
          simp only [Act.put, List.setIfInBounds_toArray, List.set_cons_zero, List.set_cons_succ]
          refine take_do (i := 2) (v := (.int .i64 i)) rfl (by kernel_rfl) (by kernel_rfl) (by kernel_rfl) (fun _ _ _ h => h) (by rfl) ?_ (by assumption) ?_
          · intro w hSw
            go_simp
          simp only [Act.put, List.setIfInBounds_toArray, List.set_cons_zero, List.set_cons_succ]
          refine take_do (i := 3) (v := (.pointer (some ⟨b, i * 2, none⟩))) rfl (by kernel_rfl) (by kernel_rfl) (by kernel_rfl) (fun _ _ _ h => h) (by rfl) ?_ (by assumption) ?_
          · intro w hSw
            go_simp
          simp only [Act.put, List.setIfInBounds_toArray, List.set_cons_zero, List.set_cons_succ]
          refine take_do (i := 4) (v := (.agg #[.int .i64 p, .int .i64 q])) rfl (by kernel_rfl) (by kernel_rfl) (by kernel_rfl) (fun _ _ _ h => h) (by rfl) ?_ (by assumption) ?_
          · intro w hSw
            obtain ⟨b', eb', c0, c1⟩ := (hS.out.ls.below hSw).at_.at2 hlt
            cases eb'
            rw [← HP.out] at c0
            rw [← HQ.out] at c1
            go_simp
          simp only [Act.put, List.setIfInBounds_toArray, List.set_cons_zero, List.set_cons_succ]
          refine wpAnyH_ready (rs := [5, 6]) (by kernel_rfl) (by simp) (AllReadyH.cons (at_drop (i := 5) rfl) (fun K2 hK => ?_) (AllReadyH.cons (at_drop (i := 6) rfl) (fun K2 hK => ?_) (AllReadyH.nil)))
          · go_simp
            refine (implAct_any A0 p q _).mono ?_
            rintro e Z1 ⟨rfl, hb⟩
            rw [HAM.out]
            go_wp2_with fail
            refine hK.out _ _ (hHeld.trans (hb.mono hHeld.size)) (fun hHeld2 => ?_)
            clear hK hHeld hb
            have hHeld := hHeld2
            clear hHeld2
            refine wpAnyH_ready (rs := [6]) (by kernel_rfl) (by simp) (AllReadyH.cons (at_drop (i := 6) rfl) (fun K2 hK => ?_) (AllReadyH.nil))
            obtain ⟨Z2, hZ2⟩ : ∃ Z2, Z2 = Z1.alloc (.cells #[.int .i64 0, .int .i64 0, .int .i64 0, .int .i64 0, .int .i64 0, .int .i64 0] 40) := ⟨_, rfl⟩
            have hb : Below Z1.heap.size Z1 Z2 := by rw [hZ2]; exact nbel_alloc _ _
            have HV : Hid (Z2.rowIs Z1.heap.size 40 6 (rowN [.int .i64 0, .int .i64 0, .int .i64 0, .int .i64 0, .int .i64 0, .int .i64 0])) := by show World.rowIs _ _ _ _ _; rw [hZ2]; exact rowN_alloc _ _ _
            obtain ⟨xb, hxb⟩ : ∃ xb, xb = Z1.heap.size := ⟨_, rfl⟩
            rw [← hxb] at HV
            have HXL : Hid (wr.heap.size ≤ xb) := by show _ ≤ _; rw [hxb]; exact hHeld.size
            go_simp
            rw [← hZ2, ← hxb]
            clear hZ2
            refine hK.out _ _ (hHeld.trans (hb.mono hHeld.size)) (fun hHeld2 => ?_)
            clear hK hHeld hxb hb
            have hHeld := hHeld2
            clear hHeld2
            have zr := al6put HV.out rfl (.int .i64 M.hi) (.int .i64 M.lo) (.int .i64 M.dl) (.int .i64 M.st) (.int .i64 M.ct) (.int .i64 M.sh)
            have zk := fun (k : Nat) (hk : k ≠ xb) => al6blk (W := Z2) hk (.int .i64 M.hi) (.int .i64 M.lo) (.int .i64 M.dl) (.int .i64 M.st) (.int .i64 M.ct) (.int .i64 M.sh)
            have zb := al6bel (g := xb) hHeld HXL.out (.int .i64 M.hi) (.int .i64 M.lo) (.int .i64 M.dl) (.int .i64 M.st) (.int .i64 M.ct) (.int .i64 M.sh)
            obtain ⟨⟨o0, o1, o2, o3, o4, o5⟩, z0, z1, z2, z3, z4, z5⟩ := rowN6 HV.out
            have hol := HV.out.lt
            refine take_call (i := 7) rfl (by kernel_rfl) (fun K2 hK => ?_)
            go_simp
            clear o0 o1 o2 o3 o4 o5 z0 z1 z2 z3 z4 z5
            generalize ((((((Z2).setCell ⟨xb, 0, none⟩ (.int .i64 M.hi)).setCell ⟨xb, 1, none⟩ (.int .i64 M.lo)).setCell ⟨xb, 2, none⟩ (.int .i64 M.dl)).setCell ⟨xb, 3, none⟩ (.int .i64 M.st)).setCell ⟨xb, 4, none⟩ (.int .i64 M.ct)).setCell ⟨xb, 5, none⟩ (.int .i64 M.sh) = Y at zr zk zb  ⊢
            refine hK.out _ _ zb (fun hHeld2 => ?_)
            clear hK hHeld hHeld2
            refine wpAnyH_done (by kernel_rfl) ?_ _
            have HPR : Hid (PnA wr M xb Y) := ⟨zb, zr, HXL.out⟩
            clear zr zk zb
            go_wp2_with fail
            go_meet
            case rel => exact ⟨xb, rfl, HPR⟩
          · obtain ⟨Z1, hZ1⟩ : ∃ Z1, Z1 = Z.alloc (.cells #[.int .i64 0, .int .i64 0, .int .i64 0, .int .i64 0, .int .i64 0, .int .i64 0] 40) := ⟨_, rfl⟩
            have hb : Below Z.heap.size Z Z1 := by rw [hZ1]; exact nbel_alloc _ _
            have HV : Hid (Z1.rowIs Z.heap.size 40 6 (rowN [.int .i64 0, .int .i64 0, .int .i64 0, .int .i64 0, .int .i64 0, .int .i64 0])) := by show World.rowIs _ _ _ _ _; rw [hZ1]; exact rowN_alloc _ _ _
            obtain ⟨xb, hxb⟩ : ∃ xb, xb = Z.heap.size := ⟨_, rfl⟩
            rw [← hxb] at HV
            have HXL : Hid (wr.heap.size ≤ xb) := by show _ ≤ _; rw [hxb]; exact hHeld.size
            go_simp
            rw [← hZ1, ← hxb]
            clear hZ1
            refine hK.out _ _ (hHeld.trans (hb.mono hHeld.size)) (fun hHeld2 => ?_)
            clear hK hHeld hxb hb
            have hHeld := hHeld2
            clear hHeld2
            refine wpAnyH_ready (rs := [5]) (by kernel_rfl) (by simp) (AllReadyH.cons (at_drop (i := 5) rfl) (fun K2 hK => ?_) (AllReadyH.nil))
            go_simp
            refine (implAct_any A0 p q _).mono ?_
            rintro e Z2 ⟨rfl, hb⟩
            rw [HAM.out]
            have HV2 := Lib.hid (nrow_below HV.out hb)
            clear HV
            have HV := HV2
            clear HV2
            go_wp2_with fail
            refine hK.out _ _ (hHeld.trans (hb.mono hHeld.size)) (fun hHeld2 => ?_)
            clear hK hHeld hb
            have hHeld := hHeld2
            clear hHeld2
            have zr := al6put HV.out rfl (.int .i64 M.hi) (.int .i64 M.lo) (.int .i64 M.dl) (.int .i64 M.st) (.int .i64 M.ct) (.int .i64 M.sh)
            have zk := fun (k : Nat) (hk : k ≠ xb) => al6blk (W := Z2) hk (.int .i64 M.hi) (.int .i64 M.lo) (.int .i64 M.dl) (.int .i64 M.st) (.int .i64 M.ct) (.int .i64 M.sh)
            have zb := al6bel (g := xb) hHeld HXL.out (.int .i64 M.hi) (.int .i64 M.lo) (.int .i64 M.dl) (.int .i64 M.st) (.int .i64 M.ct) (.int .i64 M.sh)
            obtain ⟨⟨o0, o1, o2, o3, o4, o5⟩, z0, z1, z2, z3, z4, z5⟩ := rowN6 HV.out
            have hol := HV.out.lt
            refine take_call (i := 7) rfl (by kernel_rfl) (fun K2 hK => ?_)
            go_simp
            clear o0 o1 o2 o3 o4 o5 z0 z1 z2 z3 z4 z5
            generalize ((((((Z2).setCell ⟨xb, 0, none⟩ (.int .i64 M.hi)).setCell ⟨xb, 1, none⟩ (.int .i64 M.lo)).setCell ⟨xb, 2, none⟩ (.int .i64 M.dl)).setCell ⟨xb, 3, none⟩ (.int .i64 M.st)).setCell ⟨xb, 4, none⟩ (.int .i64 M.ct)).setCell ⟨xb, 5, none⟩ (.int .i64 M.sh) = Y at zr zk zb  ⊢
            refine hK.out _ _ zb (fun hHeld2 => ?_)
            clear hK hHeld hHeld2
            refine wpAnyH_done (by kernel_rfl) ?_ _
            have HPR : Hid (PnA wr M xb Y) := ⟨zb, zr, HXL.out⟩
            clear zr zk zb
            go_wp2_with fail
            go_meet
            case rel => exact ⟨xb, rfl, HPR⟩
        case rest =>
          obtain ⟨xn, rfl, hPN⟩ := hcut
          obtain ⟨W6, hW6⟩ : ∃ W6, W6 = wc := ⟨_, rfl⟩
          rw [← hW6] at hPN ⊢
          clear hW6
          have HS6 := Lib.hid (hS.out.below hPN.out.bel)
          have HN6 := Lib.hid hPN.out.row
          clear hPN hS HAM HP HQ
          obtain ⟨⟨m0, m1, m2, m3, m4, m5⟩, _⟩ := rowN6 HN6.out
          obtain ⟨⟨n0, n1, n2, n3, n4, n5⟩, f0, f1, f2, f3, f4, f5⟩ := rowN6 HS6.out.nw
          have hln := HS6.out.nw.lt
          have hlx := HN6.out.lt
          have HS7 := Lib.hid (HS6.out.put M)
          by_cases hst : M.st = A0.st
          · have hne : (M.st != A0.st) = false := by simp [hst]
            have HRS : Hid ((Al.rings X (Ln.fl L) (i + 1)).length = r) := by
              show _ = r
              rw [Al.rings_same (show (Al.run X (Ln.fl L) (i + 1)).st = _ by rw [HM2.out, hst, HZ.out]), Hr.out]
            clear hst
            go_wp2_with fail
            go_roundw
            case rel => exact ⟨i + 1, by omega, by rw [HRS.out], by go_num, by rw [HM2.out]; exact HS7⟩
            case measure => simp [intOf]; omega
          · have hne : (M.st != A0.st) = true := by simp [hst]
            have hns : ¬ (Al.run X (Ln.fl L) (i + 1)).st = (Al.run X (Ln.fl L) i).st := by rw [HM2.out, ← HZ.out]; exact hst
            have q0 := Al.rings_at hlt hns
            rw [← Hr.out, ← HK.out, ← HU.out] at q0
            have q3 : U (r * 2 + 1) = M.st := by rw [← HM2.out]; exact q0.2.2
            have HRS : Hid ((Al.rings X (Ln.fl L) (i + 1)).length = r + 1) := by show _ = r + 1; rw [Al.rings_more_len hns, Hr.out]
            have hrk := q0.1
            have hrkz : (r : Int) < (K : Int) := by omega
            have hnge : ¬ (K : Int) ≤ (r : Int) := by omega
            have hri : r ≤ 400 := by have := Al.rings_len X (Ln.fl L) i; rw [← Hr.out] at this; omega
            have HRI : Hid (U (r * 2) = (i : Int)) := q0.2.1
            have HRM : Hid (U (r * 2 + 1) = M.st) := q3
            obtain ⟨rb, erb, _, _⟩ := HS6.out.rg.at_.at2 hrk
            subst erb
            clear hst hns q0 q3
            go_wp2_with fail
            clear m0 m1 m2 m3 m4 m5 n0 n1 n2 n3 n4 n5 f0 f1 f2 f3 f4 f5 hln hlx HS7
            refine wp_region_held_drew (S := fun V => Below W6.heap.size W6 V) (by kernel_rfl) (Below.refl _ _).drew (fun hHeld => ?_)
            obtain ⟨V6, hV6⟩ : ∃ V6, V6 = W6.drew := ⟨_, rfl⟩
            rw [← hV6] at hHeld ⊢
            clear hV6
            refine take_do (i := 0) (v := (.int .i64 r)) rfl (by kernel_rfl) (by kernel_rfl) (by kernel_rfl) (fun _ _ _ h => h) (by rfl) ?_ (by assumption) ?_
            · intro w hSw
              go_simp
            simp only [Act.put, List.setIfInBounds_toArray, List.set_cons_zero, List.set_cons_succ]
            refine take_do (i := 1) (v := (.pointer (some ⟨xb, 6, none⟩))) rfl (by kernel_rfl) (by kernel_rfl) (by kernel_rfl) (fun _ _ _ h => h) (by rfl) ?_ (by assumption) ?_
            · intro w hSw
              go_simp
            simp only [Act.put, List.setIfInBounds_toArray, List.set_cons_zero, List.set_cons_succ]
            refine take_do (i := 2) (v := (.slice (some ⟨rb, 0, none⟩) K cN)) rfl (by kernel_rfl) (by kernel_rfl) (by kernel_rfl) (fun _ _ _ h => h) (by rfl) ?_ (by assumption) ?_
            · intro w hSw
              obtain ⟨⟨y0, y1, y2, y3, y4, y5, y6, y7⟩, _⟩ := rowN8 (nrow_below HS6.out.x hSw)
              go_simp
            simp only [Act.put, List.setIfInBounds_toArray, List.set_cons_zero, List.set_cons_succ]
            refine take_do (i := 3) (v := (.int .i64 K)) rfl (by kernel_rfl) (by kernel_rfl) (by kernel_rfl) (fun _ _ _ h => h) (by rfl) ?_ (by assumption) ?_
            · intro w hSw
              go_simp
            simp only [Act.put, List.setIfInBounds_toArray, List.set_cons_zero, List.set_cons_succ]
            refine take_do (i := 4) (v := (.bool false)) rfl (by kernel_rfl) (by kernel_rfl) (by kernel_rfl) (fun _ _ _ h => h) (by rfl) ?_ (by assumption) ?_
            · intro w hSw
              go_simp
            simp only [Act.put, List.setIfInBounds_toArray, List.set_cons_zero, List.set_cons_succ]
            refine take_do (i := 5) (v := (.bool false)) rfl (by kernel_rfl) (by kernel_rfl) (by kernel_rfl) (fun _ _ _ h => h) (by rfl) ?_ (by assumption) ?_
            · intro w hSw
              go_simp
            simp only [Act.put, List.setIfInBounds_toArray, List.set_cons_zero, List.set_cons_succ]
            refine take_do (i := 6) (v := (.pointer (some ⟨xb, 6, none⟩))) rfl (by kernel_rfl) (by kernel_rfl) (by kernel_rfl) (fun _ _ _ h => h) (by rfl) ?_ (by assumption) ?_
            · intro w hSw
              go_simp
            simp only [Act.put, List.setIfInBounds_toArray, List.set_cons_zero, List.set_cons_succ]
            refine take_do (i := 7) (v := (.slice (some ⟨rb, 0, none⟩) K cN)) rfl (by kernel_rfl) (by kernel_rfl) (by kernel_rfl) (fun _ _ _ h => h) (by rfl) ?_ (by assumption) ?_
            · intro w hSw
              obtain ⟨⟨y0, y1, y2, y3, y4, y5, y6, y7⟩, _⟩ := rowN8 (nrow_below HS6.out.x hSw)
              go_simp
            simp only [Act.put, List.setIfInBounds_toArray, List.set_cons_zero, List.set_cons_succ]
            refine take_do (i := 8) (v := (.int .i64 r)) rfl (by kernel_rfl) (by kernel_rfl) (by kernel_rfl) (fun _ _ _ h => h) (by rfl) ?_ (by assumption) ?_
            · intro w hSw
              go_simp
            simp only [Act.put, List.setIfInBounds_toArray, List.set_cons_zero, List.set_cons_succ]
            refine take_do (i := 9) (v := (.pointer (some ⟨rb, r * 2, none⟩))) rfl (by kernel_rfl) (by kernel_rfl) (by kernel_rfl) (fun _ _ _ h => h) (by rfl) ?_ (by assumption) ?_
            · intro w hSw
              go_simp
            simp only [Act.put, List.setIfInBounds_toArray, List.set_cons_zero, List.set_cons_succ]
            refine take_do (i := 10) (v := (.agg #[.int .i64 i, .int .i64 M.st])) rfl (by kernel_rfl) (by kernel_rfl) (by kernel_rfl) (fun _ _ _ h => h) (by rfl) ?_ (by assumption) ?_
            · intro w hSw
              obtain ⟨rb', erb', c0, c1⟩ := (HS6.out.rg.below hSw).at_.at2 hrk
              cases erb'
              rw [HRI.out] at c0
              rw [HRM.out] at c1
              go_simp
            simp only [Act.put, List.setIfInBounds_toArray, List.set_cons_zero, List.set_cons_succ]
            refine take_do (i := 11) (v := (.int .i64 i)) rfl (by kernel_rfl) (by kernel_rfl) (by kernel_rfl) (fun _ _ _ h => h) (by rfl) ?_ (by assumption) ?_
            · intro w hSw
              go_simp
            simp only [Act.put, List.setIfInBounds_toArray, List.set_cons_zero, List.set_cons_succ]
            refine take_do (i := 12) (v := (.pointer (some ⟨xn, 3, none⟩))) rfl (by kernel_rfl) (by kernel_rfl) (by kernel_rfl) (fun _ _ _ h => h) (by rfl) ?_ (by assumption) ?_
            · intro w hSw
              go_simp
            simp only [Act.put, List.setIfInBounds_toArray, List.set_cons_zero, List.set_cons_succ]
            refine take_do (i := 13) (v := (.int .i64 M.st)) rfl (by kernel_rfl) (by kernel_rfl) (by kernel_rfl) (fun _ _ _ h => h) (by rfl) ?_ (by assumption) ?_
            · intro w hSw
              obtain ⟨⟨m0, m1, m2, m3, m4, m5⟩, _⟩ := rowN6 (nrow_below HN6.out hSw)
              go_simp
            simp only [Act.put, List.setIfInBounds_toArray, List.set_cons_zero, List.set_cons_succ]
            refine take_do (i := 14) (v := (.agg #[.int .i64 i, .int .i64 M.st])) rfl (by kernel_rfl) (by kernel_rfl) (by kernel_rfl) (fun _ _ _ h => h) (by rfl) ?_ (by assumption) ?_
            · intro w hSw
              go_simp
            simp only [Act.put, List.setIfInBounds_toArray, List.set_cons_zero, List.set_cons_succ]
            refine take_do (i := 15) (v := (.bool false)) rfl (by kernel_rfl) (by kernel_rfl) (by kernel_rfl) (fun _ _ _ h => h) (by rfl) ?_ (by assumption) ?_
            · intro w hSw
              go_simp
            simp only [Act.put, List.setIfInBounds_toArray, List.set_cons_zero, List.set_cons_succ]
            refine take_do (i := 16) (v := (.bool false)) rfl (by kernel_rfl) (by kernel_rfl) (by kernel_rfl) (fun _ _ _ h => h) (by rfl) ?_ (by assumption) ?_
            · intro w hSw
              go_simp
            simp only [Act.put, List.setIfInBounds_toArray, List.set_cons_zero, List.set_cons_succ]
            refine wpAnyH_done (by kernel_rfl) ?_ _
            have HS8 := Lib.hid (HS6.out.below hHeld)
            have HN8 := Lib.hid (nrow_below HN6.out hHeld)
            clear hHeld HS6 HN6
            obtain ⟨⟨m0, m1, m2, m3, m4, m5⟩, _⟩ := rowN6 HN8.out
            obtain ⟨⟨n0, n1, n2, n3, n4, n5⟩, f0, f1, f2, f3, f4, f5⟩ := rowN6 HS8.out.nw
            have hln := HS8.out.nw.lt
            have hlx := HN8.out.lt
            have HS9 := Lib.hid (HS8.out.put M)
            go_wp2_with fail
            go_roundw
            case rel => exact ⟨i + 1, by omega, by rw [HRS.out]; go_num, by go_num, by rw [HM2.out]; exact HS9⟩
            case measure => simp [intOf]; omega
      · have hltz : ¬ (i : Int) < (L.length : Int) := by omega
        have ei : i = L.length := by omega
        subst ei
        obtain rfl : A0 = E := by rw [HZ.out, HE.out]
        obtain rfl : r = K := by rw [Hr.out, HK.out]
        clear hlt
        obtain ⟨⟨n0, n1, n2, n3, n4, n5⟩, _⟩ := rowN6 hS.out.nw
        obtain ⟨⟨y0, y1, y2, y3, y4, y5, y6, y7⟩, _⟩ := rowN8 hS.out.x
        go_wp2_with fail
        refine (alarmRight_any A0 _).mono ?_
        rintro e w7 ⟨rfl, hb⟩
        have hrt : Al.Right A0 := by rw [HZ.out]; exact Al.run_right HOK.out.2.1 _ _
        rw [decide_eq_true hrt]
        have HS7 := Lib.hid (hS.out.below hb)
        have HL7 : Hid (L.length ≤ 300) := HOK.out.1
        clear hb hS hrt n0 n1 n2 n3 n4 n5 y0 y1 y2 y3 y4 y5 y6 y7
        obtain ⟨⟨x0, x1, x2, x3, x4, x5⟩, _⟩ := rowN6 HS7.out.ra
        by_cases c1 : X.st = 1
        case neg =>
          have d1 : (X.st != 1) = true := by simp [c1]
          clear c1
          go_wp2_with fail
          go_ret
          exact ⟨rfl, HS7.out.old⟩
        have d1 : (X.st != 1) = false := by simp [c1]
        have HRO : Hid (Al.RingsOk U r) := by show Al.RingsOk _ _; rw [Hr.out, HU.out]; exact Al.rings_ok HOK.out.2.1 c1 HOK.out.1
        have HKR : Hid (r = (Al.rings X (Ln.fl L) L.length).length) := Hr
        obtain ⟨R, hR⟩ : ∃ R, R = Al.rings X (Ln.fl L) L.length := ⟨_, rfl⟩
        have hr4 : R.length ≤ 300 := by rw [hR]; have := Al.rings_len X (Ln.fl L) L.length; have := HL7.out; omega
        have hrr : r = R.length := by rw [HKR.out, hR]
        obtain rfl : U = Ln.fl R := by rw [HU.out, hR]
        clear HKR Hr HK HU hR c1
        subst hrr
        have HO : Hid ((w7.alloc (.cells #[] 52)).ownsRow w7.heap.size 52 2 (.slice (some ⟨w7.heap.size, 0, none⟩) 0 0) 0 (nvs [])) := World.ownsRow_made (e := 52) (size := 2) w7 #[] 0 (Nat.le_refl _) (Nat.zero_le _) rfl
        have HMI : Hid (IsIn aN (R.length * 2) (Ln.fl R) (w7.alloc (.cells #[] 52))) := (HS7.out.rg.below (nbel_alloc _ _)).at_.in_
        obtain ⟨⟨y0, y1, y2, y3, y4, y5, y6, y7⟩, _⟩ := rowN8 HS7.out.x
        have hxl := HS7.out.x.lt
        go_wp2_with (at_builtin; refine BigFrame.wpList_want (by rfl) (fun K hK => wp_append_ns (l := []) (m := R) _ _ 44 rfl 52 j0 (.agg #[.int .i64 0, .int .i64 0]) 16 Tryd.underlying44 hj0 hy0 hy1 hy2 rfl w7.heap.size _ rfl HO.out aN cN rfl HMI.out (by unfold maxLen; simp; omega) (by simp; omega) (by simp) ?_))
        intro v8 w8 hown hgrow
        refine hK _ _ ?_
        have hown1 : w8.ownsRow w7.heap.size 52 2 v8 R.length (nvs R) := by simpa using hown
        have hby : Below w7.heap.size w7 w8 := lnbelow_grown ((Below.refl _ _).alloc (Nat.le_refl _) _) (by simp) hgrow (fun k e => (World.ownsRow.lt HO.out k e).1)
        obtain ⟨a8, c8, rfl, hcy⟩ := cyo_own hown1
        have HC8 := Lib.hid hcy
        have HS8 := Lib.hid (HS7.out.below hby)
        clear hown hown1 hgrow HO HMI hby hcy HS7 x0 x1 x2 x3 x4 x5 y0 y1 y2 y3 y4 y5 y6 y7 hxl
        go_wp2_with fail
        refine (implRings_any a8 R.length c8 (Ln.fl R) _ HC8.out.at_ (by omega)).mono ?_
        rintro e w9 ⟨rfl, hb⟩
        rw [Mt.dB_tt HRO.out]
        have HBB := Lib.hid (HS8.out.below hb).old
        clear hb HS8 HC8
        go_wp2_with fail
        go_ret
        exact ⟨rfl, HBB.out⟩
end Go.Proofs.YtmejmpdljckfgaaDoor
