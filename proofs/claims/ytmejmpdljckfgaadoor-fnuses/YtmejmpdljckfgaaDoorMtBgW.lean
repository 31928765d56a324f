/-
  Joined: MtLawW.
-/
import Derived.Test.YtmejmpdljckfgaaDoorMtBgU
import Derived.Test.YtmejmpdljckfgaaDoorMtV2
import Derived.Test.YtmejmpdljckfgaaDoorMtV3
import Derived.Test.YtmejmpdljckfgaaDoorMtU1
import Derived.Test.YtmejmpdljckfgaaDoorLwAt
import Derived.Test.YtmejmpdljckfgaaDoorEt
import Derived.Deep.DeepCutAuto
namespace Go.Proofs.YtmejmpdljckfgaaDoor
open Go Go.RowKit Go.Deep

theorem own_low4 {W : World} {B B' n s : Nat} {e : TypeId} {v : Value} {ns : List Value} (h : W.ownsRow B e s v n ns) (hb : B' ≤ B) : W.ownsRow B' e s v n ns := by
  refine ⟨h.1, ?_⟩
  rcases h.2 with h2 | ⟨g, cap, cur, e1, e2, e3⟩
  · exact Or.inl h2
  · exact Or.inr ⟨g, cap, cur, e1, Nat.le_trans hb e2, e3⟩
/-- Numbers two by two, as a list of pairs. -/
theorem fl_of4 (F : Nat → Int) (n : Nat) : ∃ L : List Ln.Nt, L.length = n ∧ ∀ j, j < n * 2 → F j = Ln.fl L j := by
  refine ⟨(List.range n).map (fun i => (F (i * 2), F (i * 2 + 1))), by simp, fun j hj => ?_⟩
  rcases Nat.mod_two_eq_zero_or_one j with h | h
  · obtain ⟨i, rfl⟩ : ∃ i, j = i * 2 := ⟨j / 2, by omega⟩
    rw [Ln.fl_even]
    simp [show i < n by omega]
  · obtain ⟨i, rfl⟩ : ∃ i, j = i * 2 + 1 := ⟨j / 2, by omega⟩
    rw [Ln.fl_odd]
    simp [show i < n by omega]
theorem UsOwn.cy {B N c : Nat} {a : Option Addr} {f : Nat → Int} {W : World} (h : UsOwn B N a c f W) : CyO 33 B (N * 4) a c f W := by
  rcases h with ⟨h1, h2, h3⟩ | h
  · exact Or.inl ⟨h1, by omega, h3⟩
  · exact Or.inr h
/-- What stands in the law: the drawn meter and reads, the answer and its uses. -/
structure UqS (w : World) (X : Mt.M) (L : List Ln.Nt) (la : Option Addr) (lc g xb : Nat) (E : Mt.M) (U : Nat → Int) (aN : Option Addr) (cN : Nat) (W : World) : Prop where
  ra : W.rowIs g 24 4 (rowN (mtL X))
  ls : CyO 35 w.heap.size (L.length * 2) la lc (Ln.fl L) W
  x : W.rowIs xb 30 6 (rowN (muL E aN L.length cN 0))
  rg : CyO 33 w.heap.size (L.length * 4) aN cN U W
  old : Below w.heap.size w W
theorem UqS.below {w : World} {X : Mt.M} {L : List Ln.Nt} {la : Option Addr} {lc g xb : Nat} {E : Mt.M} {U : Nat → Int} {aN : Option Addr} {cN : Nat} {W W' : World} (h : UqS w X L la lc g xb E U aN cN W) (hb : Below W.heap.size W W') : UqS w X L la lc g xb E U aN cN W' :=
  ⟨nrow_below h.ra hb, h.ls.below hb, nrow_below h.x hb, h.rg.below hb, h.old.trans (hb.mono h.old.size)⟩
theorem mu_code (m : Mt.M) (l : Option Addr) (n c : Nat) (x : Int) (w : World) : (Instr.field 30 (muV m l n c x) 2).run Tryd.prog w = .ok (.int .i64 x) w := by kernel_rfl
theorem uqinfo : (Tryd.prog.info? 33).map (fun i => (i.zero, i.size, i.bytes)) = some (some (.agg #[.int .i64 0, .int .i64 0, .int .i64 0, .int .i64 0]), 4, 32) := by kernel_rfl
set_option maxRecDepth 100000 in
set_option maxHeartbeats 16000000 in
theorem uses_fn (w : World) (a : Option Addr) (len cap : Nat) (h : Bytes a len w) (hl : len ≤ 9223372036854775807) (a2 : Option Addr) (len2 cap2 : Nat) (h2 : Bytes a2 len2 w) (hl2 : len2 ≤ 9223372036854775807) (hg : Et w ∧ TabOk w) :
    Calls Tryd.prog 3 #[.slice a len cap, .slice a2 len2 cap2] w fun e w' => e = .returned (.bool true) ∧ Below w.heap.size w w' := by
  have H := Lib.hid h
  have H2 := Lib.hid h2
  have HG := Lib.hid hg
  clear h h2 hg
  by_cases hb1 : (1048576 : Int) < (len : Int)
  · go_enter Tryd.func3, Tryd.ntmps3
    go_wp2_with fail
    go_ret
    exact ⟨rfl, Below.refl _ _⟩
  by_cases hb2 : (1048576 : Int) < (len2 : Int)
  · go_enter Tryd.func3, Tryd.ntmps3
    go_wp2_with fail
    go_ret
    exact ⟨rfl, Below.refl _ _⟩
  have HL2 : Hid (len2 ≤ 4194304) := by show len2 ≤ 4194304; omega
  obtain ⟨i0, hi0, hz0, hz1, hz2⟩ := info_parts dqinfo
  obtain ⟨j0, hj0, hy0, hy1, hy2⟩ := info_parts uqinfo
  go_enter Tryd.func3, Tryd.ntmps3
  go_wp2_with fail
  refine (drawMRL_any a len cap _ H.out (by omega)).mono ?_
  rintro e w1 ⟨⟨X, la, n, lc, F, rfl, hc, hn⟩, hb⟩
  obtain ⟨L, hL, hF⟩ := fl_of4 F n
  replace hc := hc.congr hF
  subst hL
  have HB1 := Lib.hid hb
  obtain ⟨W, hW⟩ : ∃ W, W = w1.alloc (.cells #[.int .i64 X.d, .int .i64 X.u, .int .i64 X.day, .int .i64 X.s] 24) := ⟨_, rfl⟩
  obtain ⟨g, hgg⟩ : ∃ g, g = w1.heap.size := ⟨_, rfl⟩
  have HR : Hid (W.rowIs g 24 4 (rowN (mtL X))) := by show World.rowIs _ _ _ _ _; rw [hW, hgg]; exact rowN_alloc w1 (mtL X) _
  have HB : Hid (Below w.heap.size w W) := by show Below _ _ _; rw [hW]; exact HB1.out.alloc HB1.out.size _
  have HC : Hid (CyO 35 w.heap.size (L.length * 2) la lc (Ln.fl L) W) := by show CyO _ _ _ _ _ _ _; rw [hW]; exact hc.below (nbel_alloc _ _)
  have HW := Lib.hid hW
  have HGG := Lib.hid hgg
  clear hW hgg HB1 hc hb hb1 hb2 H hF
  go_wp2_with fail
  rw [← HGG.out, ← HW.out]
  clear HW HGG
  refine (specMRun_any X la L.length lc (Ln.fl L) _ HC.out.at_ (by omega)).mono ?_
  rintro e w2 ⟨hE, hb⟩
  have HR2 := Lib.hid (nrow_below HR.out hb)
  have HB2 : Hid (Below w.heap.size w w2) := HB.out.trans (hb.mono HB.out.size)
  have HC2 := Lib.hid (HC.out.below hb)
  clear hb HR HB HC
  rcases hE with ⟨hno, rfl⟩ | ⟨hok, a3, c3, rfl, _⟩
  · have hcd : (Mt.runC L.length != 0) = true := by unfold Mt.runC; split <;> rfl
    have e1 := mu_code Mt.none none 0 0 (Mt.runC L.length)
    go_wp2_with fail
    go_ret
    exact ⟨rfl, HB2.out⟩
  have HOK := Lib.hid hok
  clear hok
  have e1 := mu_code (Mt.mAt X (Ln.fl L) L.length) a3 L.length c3 0
  go_wp2_with fail
  clear e1
  obtain ⟨E, hE2⟩ : ∃ E, E = Mt.mAt X (Ln.fl L) L.length := ⟨_, rfl⟩
  obtain ⟨U, hU⟩ : ∃ U, U = Mt.use X (Ln.fl L) := ⟨_, rfl⟩
  have HE := Lib.hid hE2
  have HU := Lib.hid hU
  clear hE2 hU
  go_cut [7] (fun q Wq => ∃ xb aN cN, q = .pointer (some ⟨xb, 0, none⟩) ∧ Hid (PrM w2 E L.length 0 U xb aN cN Wq))
  case first =>
    refine wp_region_held_drew (S := fun V => Below w2.heap.size w2 V) (by kernel_rfl) (Below.refl _ _).drew (fun hHeld => ?_)
    obtain ⟨Z, hZ⟩ : ∃ Z, Z = w2.drew := ⟨_, rfl⟩
    rw [← hZ] at hHeld ⊢
    clear hZ
    refine take_do (i := 0) (v := (mtV X)) rfl (by kernel_rfl) (by kernel_rfl) (by kernel_rfl) (fun _ _ _ h => h) (by rfl) ?_ (by assumption) ?_
    · intro w hSw
      obtain ⟨⟨a0, a1, a2, a3⟩, _⟩ := rowN4 (nrow_below HR2.out hSw)
      go_simp
    simp only [Act.put, List.setIfInBounds_toArray, List.set_cons_zero, List.set_cons_succ]
    refine take_do (i := 2) (v := (.slice la L.length lc)) rfl (by kernel_rfl) (by kernel_rfl) (by kernel_rfl) (fun _ _ _ h => h) (by rfl) ?_ (by assumption) ?_
    · intro w hSw
      go_simp
    simp only [Act.put, List.setIfInBounds_toArray, List.set_cons_zero, List.set_cons_succ]
    refine wpAnyH_ready (rs := [1, 5]) (by kernel_rfl) (by simp) (AllReadyH.cons (at_drop (i := 1) rfl) (fun K2 hK => ?_) (AllReadyH.cons (at_drop (i := 5) rfl) (fun K2 hK => ?_) (AllReadyH.nil)))
    · obtain ⟨Z1, hZ1⟩ : ∃ Z1, Z1 = Z.alloc (.cells #[] 35) := ⟨_, rfl⟩
      have hb : Below Z.heap.size Z Z1 := by rw [hZ1]; exact nbel_alloc _ _
      obtain ⟨gq, hgq⟩ : ∃ gq, gq = Z.heap.size := ⟨_, rfl⟩
      have HO : Hid (Z1.ownsRow w2.heap.size 35 2 (.slice (some ⟨gq, 0, none⟩) 0 0) (([] : List Ln.Nt).length) (nvs [])) := by show World.ownsRow _ _ _ _ _ _ _; rw [hZ1, hgq]; exact own_low4 (World.ownsRow_made (e := 35) (size := 2) Z #[] 0 (Nat.le_refl _) (Nat.zero_le _) rfl) hHeld.size
      go_simp
      rw [← hZ1, ← hgq]
      clear hZ1 hgq
      refine hK.out _ _ (hHeld.trans (hb.mono hHeld.size)) (fun hHeld2 => ?_)
      clear hK hHeld hb
      have hHeld := hHeld2
      clear hHeld2
      refine wpAnyH_ready (rs := [3, 5]) (by kernel_rfl) (by simp) (AllReadyH.cons (at_drop (i := 3) rfl) (fun K2 hK => ?_) (AllReadyH.cons (at_drop (i := 5) rfl) (fun K2 hK => ?_) (AllReadyH.nil)))
      · have HMI : Hid (IsIn la (L.length * 2) (Ln.fl L) Z1) := (HC2.out.below hHeld).at_.in_
        refine step_append_ns rfl (.tmp 33) (.tmp 34) 25 rfl 35 i0 (.agg #[.int .i64 0, .int .i64 0]) 16 Tryd.underlying25 hi0 hz0 hz1 hz2 rfl w2.heap.size (.slice (some ⟨gq, 0, none⟩) 0 0) [] L rfl HO.out la lc rfl HMI.out (by unfold maxLen; simp; omega) (by simp; omega) hHeld.size ?_
        intro vP Z2 hown hgrow
        obtain ⟨aP, cP, rfl, hcy⟩ := cyo_own (l := L) (by simpa using hown)
        have HP := Lib.hid hcy
        clear hown hcy HMI
        refine hK.out _ _ (hHeld.grown hgrow hHeld.size (fun k e => (World.ownsRow.lt HO.out k e).1)) (fun hHeld2 => ?_)
        clear hK hHeld hgrow HO
        have hHeld := hHeld2
        clear hHeld2
        simp only [Act.put, List.setIfInBounds_toArray, List.set_cons_zero, List.set_cons_succ]
        refine wpAnyH_ready (rs := [4, 5]) (by kernel_rfl) (by simp) (AllReadyH.cons (at_drop (i := 4) rfl) (fun K2 hK => ?_) (AllReadyH.cons (at_drop (i := 5) rfl) (fun K2 hK => ?_) (AllReadyH.nil)))
        · go_simp
          refine (implMRun_any X aP L.length cP (Ln.fl L) _ HP.out.at_ (by omega) ⟨(HG.out.1.below HB2.out).below hHeld, tab_below (tab_below HG.out.2 HB2.out) hHeld⟩).mono ?_
          rintro e Z3 ⟨hE, hb⟩
          rcases hE with ⟨hno, _⟩ | ⟨_, aN, cN, rfl, hown⟩
          · exact absurd HOK.out hno
          rw [← HE.out]
          rw [← HU.out] at hown
          have HOW := Lib.hid (hown.low hHeld.size)
          clear hown HP
          go_wp2_with fail
          refine hK.out _ _ (hHeld.trans (hb.mono hHeld.size)) (fun hHeld2 => ?_)
          clear hK hHeld hb
          have hHeld := hHeld2
          clear hHeld2
          refine wpAnyH_ready (rs := [5]) (by kernel_rfl) (by simp) (AllReadyH.cons (at_drop (i := 5) rfl) (fun K2 hK => ?_) (AllReadyH.nil))
          obtain ⟨Z4, hZ4⟩ : ∃ Z4, Z4 = Z3.alloc (.cells #[.int .i64 0, .int .i64 0, .int .i64 0, .int .i64 0, .slice none 0 0, .int .i64 0] 30) := ⟨_, rfl⟩
          have hb : Below Z3.heap.size Z3 Z4 := by rw [hZ4]; exact nbel_alloc _ _
          have HV : Hid (Z4.rowIs Z3.heap.size 30 6 (rowN [.int .i64 0, .int .i64 0, .int .i64 0, .int .i64 0, .slice none 0 0, .int .i64 0])) := by show World.rowIs _ _ _ _ _; rw [hZ4]; exact rowN_alloc _ _ _
          obtain ⟨xb, hxb⟩ : ∃ xb, xb = Z3.heap.size := ⟨_, rfl⟩
          rw [← hxb] at HV
          have HXL : Hid (w2.heap.size ≤ xb) := by show _ ≤ _; rw [hxb]; exact hHeld.size
          have HOW2 := Lib.hid (HOW.out.below hb)
          clear HOW
          have HOW := HOW2
          clear HOW2
          go_simp
          rw [← hZ4, ← hxb]
          clear hZ4
          refine hK.out _ _ (hHeld.trans (hb.mono hHeld.size)) (fun hHeld2 => ?_)
          clear hK hHeld hxb hb
          have hHeld := hHeld2
          clear hHeld2
          have zr := mput6 HV.out rfl (.int .i64 E.d) (.int .i64 E.u) (.int .i64 E.day) (.int .i64 E.s) (.slice aN L.length cN) (.int .i64 0)
          have zk := fun (k : Nat) (hk : k ≠ xb) => mblk6 (W := Z4) hk (.int .i64 E.d) (.int .i64 E.u) (.int .i64 E.day) (.int .i64 E.s) (.slice aN L.length cN) (.int .i64 0)
          have zb := mbel6 (g := xb) hHeld HXL.out (.int .i64 E.d) (.int .i64 E.u) (.int .i64 E.day) (.int .i64 E.s) (.slice aN L.length cN) (.int .i64 0)
          obtain ⟨⟨o0, o1, o2, o3, o4, o5⟩, z0, z1, z2, z3, z4, z5⟩ := rowN6 HV.out
          have hol := HV.out.lt
          refine take_call (i := 6) rfl (by kernel_rfl) (fun K2 hK => ?_)
          go_simp
          clear o0 o1 o2 o3 o4 o5 z0 z1 z2 z3 z4 z5
          have zo : UsOwn w2.heap.size L.length aN cN U _ := HOW.out.same (fun k e _ => zk k (HOW.out.ne HV.out e))
          generalize ((((((Z4).setCell ⟨xb, 0, none⟩ (.int .i64 E.d)).setCell ⟨xb, 1, none⟩ (.int .i64 E.u)).setCell ⟨xb, 2, none⟩ (.int .i64 E.day)).setCell ⟨xb, 3, none⟩ (.int .i64 E.s)).setCell ⟨xb, 4, none⟩ (.slice aN L.length cN)).setCell ⟨xb, 5, none⟩ (.int .i64 0) = Wz at zr zk zb zo ⊢
          refine hK.out _ _ zb (fun hHeld2 => ?_)
          clear hK hHeld hHeld2
          refine wpAnyH_done (by kernel_rfl) ?_ _
          have HPR : Hid (PrM w2 E L.length 0 U xb aN cN Wz) := ⟨zb, zr, zo, HXL.out⟩
          clear zo
          clear zr zk zb
          go_wp2_with fail
          go_meet
          case rel => exact ⟨xb, aN, cN, rfl, HPR⟩
        · obtain ⟨Z3, hZ3⟩ : ∃ Z3, Z3 = Z2.alloc (.cells #[.int .i64 0, .int .i64 0, .int .i64 0, .int .i64 0, .slice none 0 0, .int .i64 0] 30) := ⟨_, rfl⟩
          have hb : Below Z2.heap.size Z2 Z3 := by rw [hZ3]; exact nbel_alloc _ _
          have HV : Hid (Z3.rowIs Z2.heap.size 30 6 (rowN [.int .i64 0, .int .i64 0, .int .i64 0, .int .i64 0, .slice none 0 0, .int .i64 0])) := by show World.rowIs _ _ _ _ _; rw [hZ3]; exact rowN_alloc _ _ _
          obtain ⟨xb, hxb⟩ : ∃ xb, xb = Z2.heap.size := ⟨_, rfl⟩
          rw [← hxb] at HV
          have HXL : Hid (w2.heap.size ≤ xb) := by show _ ≤ _; rw [hxb]; exact hHeld.size
          have HP2 := Lib.hid (HP.out.below hb)
          clear HP
          have HP := HP2
          clear HP2
          go_simp
          rw [← hZ3, ← hxb]
          clear hZ3
          refine hK.out _ _ (hHeld.trans (hb.mono hHeld.size)) (fun hHeld2 => ?_)
          clear hK hHeld hxb hb
          have hHeld := hHeld2
          clear hHeld2
          refine wpAnyH_ready (rs := [4]) (by kernel_rfl) (by simp) (AllReadyH.cons (at_drop (i := 4) rfl) (fun K2 hK => ?_) (AllReadyH.nil))
          go_simp
          refine (implMRun_any X aP L.length cP (Ln.fl L) _ HP.out.at_ (by omega) ⟨(HG.out.1.below HB2.out).below hHeld, tab_below (tab_below HG.out.2 HB2.out) hHeld⟩).mono ?_
          rintro e Z4 ⟨hE, hb⟩
          rcases hE with ⟨hno, _⟩ | ⟨_, aN, cN, rfl, hown⟩
          · exact absurd HOK.out hno
          rw [← HE.out]
          rw [← HU.out] at hown
          have HOW := Lib.hid (hown.low hHeld.size)
          clear hown HP
          have HV2 := Lib.hid (nrow_below HV.out hb)
          clear HV
          have HV := HV2
          clear HV2
          go_wp2_with fail
          refine hK.out _ _ (hHeld.trans (hb.mono hHeld.size)) (fun hHeld2 => ?_)
          clear hK hHeld hb
          have hHeld := hHeld2
          clear hHeld2
          have zr := mput6 HV.out rfl (.int .i64 E.d) (.int .i64 E.u) (.int .i64 E.day) (.int .i64 E.s) (.slice aN L.length cN) (.int .i64 0)
          have zk := fun (k : Nat) (hk : k ≠ xb) => mblk6 (W := Z4) hk (.int .i64 E.d) (.int .i64 E.u) (.int .i64 E.day) (.int .i64 E.s) (.slice aN L.length cN) (.int .i64 0)
          have zb := mbel6 (g := xb) hHeld HXL.out (.int .i64 E.d) (.int .i64 E.u) (.int .i64 E.day) (.int .i64 E.s) (.slice aN L.length cN) (.int .i64 0)
          obtain ⟨⟨o0, o1, o2, o3, o4, o5⟩, z0, z1, z2, z3, z4, z5⟩ := rowN6 HV.out
          have hol := HV.out.lt
          refine take_call (i := 6) rfl (by kernel_rfl) (fun K2 hK => ?_)
          go_simp
          clear o0 o1 o2 o3 o4 o5 z0 z1 z2 z3 z4 z5
          have zo : UsOwn w2.heap.size L.length aN cN U _ := HOW.out.same (fun k e _ => zk k (HOW.out.ne HV.out e))
          generalize ((((((Z4).setCell ⟨xb, 0, none⟩ (.int .i64 E.d)).setCell ⟨xb, 1, none⟩ (.int .i64 E.u)).setCell ⟨xb, 2, none⟩ (.int .i64 E.day)).setCell ⟨xb, 3, none⟩ (.int .i64 E.s)).setCell ⟨xb, 4, none⟩ (.slice aN L.length cN)).setCell ⟨xb, 5, none⟩ (.int .i64 0) = Wz at zr zk zb zo ⊢
          refine hK.out _ _ zb (fun hHeld2 => ?_)
          clear hK hHeld hHeld2
          refine wpAnyH_done (by kernel_rfl) ?_ _
          have HPR : Hid (PrM w2 E L.length 0 U xb aN cN Wz) := ⟨zb, zr, zo, HXL.out⟩
          clear zo
          clear zr zk zb
          go_wp2_with fail
          go_meet
          case rel => exact ⟨xb, aN, cN, rfl, HPR⟩
      · obtain ⟨Z2, hZ2⟩ : ∃ Z2, Z2 = Z1.alloc (.cells #[.int .i64 0, .int .i64 0, .int .i64 0, .int .i64 0, .slice none 0 0, .int .i64 0] 30) := ⟨_, rfl⟩
        have hb : Below Z1.heap.size Z1 Z2 := by rw [hZ2]; exact nbel_alloc _ _
        have HV : Hid (Z2.rowIs Z1.heap.size 30 6 (rowN [.int .i64 0, .int .i64 0, .int .i64 0, .int .i64 0, .slice none 0 0, .int .i64 0])) := by show World.rowIs _ _ _ _ _; rw [hZ2]; exact rowN_alloc _ _ _
        obtain ⟨xb, hxb⟩ : ∃ xb, xb = Z1.heap.size := ⟨_, rfl⟩
        rw [← hxb] at HV
        have HXL : Hid (w2.heap.size ≤ xb) := by show _ ≤ _; rw [hxb]; exact hHeld.size
        have HO2 := Lib.hid (own_far HO.out (fun k _ hk => hb.block k hk))
        clear HO
        have HO := HO2
        clear HO2
        go_simp
        rw [← hZ2, ← hxb]
        clear hZ2
        refine hK.out _ _ (hHeld.trans (hb.mono hHeld.size)) (fun hHeld2 => ?_)
        clear hK hHeld hxb hb
        have hHeld := hHeld2
        clear hHeld2
        refine wpAnyH_ready (rs := [3]) (by kernel_rfl) (by simp) (AllReadyH.cons (at_drop (i := 3) rfl) (fun K2 hK => ?_) (AllReadyH.nil))
        have HMI : Hid (IsIn la (L.length * 2) (Ln.fl L) Z2) := (HC2.out.below hHeld).at_.in_
        refine step_append_ns rfl (.tmp 33) (.tmp 34) 25 rfl 35 i0 (.agg #[.int .i64 0, .int .i64 0]) 16 Tryd.underlying25 hi0 hz0 hz1 hz2 rfl w2.heap.size (.slice (some ⟨gq, 0, none⟩) 0 0) [] L rfl HO.out la lc rfl HMI.out (by unfold maxLen; simp; omega) (by simp; omega) hHeld.size ?_
        intro vP Z3 hown hgrow
        obtain ⟨aP, cP, rfl, hcy⟩ := cyo_own (l := L) (by simpa using hown)
        have HP := Lib.hid hcy
        clear hown hcy HMI
        have HV2 := Lib.hid (HV.out.of_block (hgrow.block _ HV.out.lt (fun e => dq_ne HO.out HV.out (by decide) e.symm rfl)))
        clear HV
        have HV := HV2
        clear HV2
        refine hK.out _ _ (hHeld.grown hgrow hHeld.size (fun k e => (World.ownsRow.lt HO.out k e).1)) (fun hHeld2 => ?_)
        clear hK hHeld hgrow HO
        have hHeld := hHeld2
        clear hHeld2
        simp only [Act.put, List.setIfInBounds_toArray, List.set_cons_zero, List.set_cons_succ]
        refine wpAnyH_ready (rs := [4]) (by kernel_rfl) (by simp) (AllReadyH.cons (at_drop (i := 4) rfl) (fun K2 hK => ?_) (AllReadyH.nil))
        go_simp
        refine (implMRun_any X aP L.length cP (Ln.fl L) _ HP.out.at_ (by omega) ⟨(HG.out.1.below HB2.out).below hHeld, tab_below (tab_below HG.out.2 HB2.out) hHeld⟩).mono ?_
        rintro e Z4 ⟨hE, hb⟩
        rcases hE with ⟨hno, _⟩ | ⟨_, aN, cN, rfl, hown⟩
        · exact absurd HOK.out hno
        rw [← HE.out]
        rw [← HU.out] at hown
        have HOW := Lib.hid (hown.low hHeld.size)
        clear hown HP
        have HV2 := Lib.hid (nrow_below HV.out hb)
        clear HV
        have HV := HV2
        clear HV2
        go_wp2_with fail
        refine hK.out _ _ (hHeld.trans (hb.mono hHeld.size)) (fun hHeld2 => ?_)
        clear hK hHeld hb
        have hHeld := hHeld2
        clear hHeld2
        have zr := mput6 HV.out rfl (.int .i64 E.d) (.int .i64 E.u) (.int .i64 E.day) (.int .i64 E.s) (.slice aN L.length cN) (.int .i64 0)
        have zk := fun (k : Nat) (hk : k ≠ xb) => mblk6 (W := Z4) hk (.int .i64 E.d) (.int .i64 E.u) (.int .i64 E.day) (.int .i64 E.s) (.slice aN L.length cN) (.int .i64 0)
        have zb := mbel6 (g := xb) hHeld HXL.out (.int .i64 E.d) (.int .i64 E.u) (.int .i64 E.day) (.int .i64 E.s) (.slice aN L.length cN) (.int .i64 0)
        obtain ⟨⟨o0, o1, o2, o3, o4, o5⟩, z0, z1, z2, z3, z4, z5⟩ := rowN6 HV.out
        have hol := HV.out.lt
        refine take_call (i := 6) rfl (by kernel_rfl) (fun K2 hK => ?_)
        go_simp
        clear o0 o1 o2 o3 o4 o5 z0 z1 z2 z3 z4 z5
        have zo : UsOwn w2.heap.size L.length aN cN U _ := HOW.out.same (fun k e _ => zk k (HOW.out.ne HV.out e))
        generalize ((((((Z4).setCell ⟨xb, 0, none⟩ (.int .i64 E.d)).setCell ⟨xb, 1, none⟩ (.int .i64 E.u)).setCell ⟨xb, 2, none⟩ (.int .i64 E.day)).setCell ⟨xb, 3, none⟩ (.int .i64 E.s)).setCell ⟨xb, 4, none⟩ (.slice aN L.length cN)).setCell ⟨xb, 5, none⟩ (.int .i64 0) = Wz at zr zk zb zo ⊢
        refine hK.out _ _ zb (fun hHeld2 => ?_)
        clear hK hHeld hHeld2
        refine wpAnyH_done (by kernel_rfl) ?_ _
        have HPR : Hid (PrM w2 E L.length 0 U xb aN cN Wz) := ⟨zb, zr, zo, HXL.out⟩
        clear zo
        clear zr zk zb
        go_wp2_with fail
        go_meet
        case rel => exact ⟨xb, aN, cN, rfl, HPR⟩
    · obtain ⟨Z1, hZ1⟩ : ∃ Z1, Z1 = Z.alloc (.cells #[.int .i64 0, .int .i64 0, .int .i64 0, .int .i64 0, .slice none 0 0, .int .i64 0] 30) := ⟨_, rfl⟩
      have hb : Below Z.heap.size Z Z1 := by rw [hZ1]; exact nbel_alloc _ _
      have HV : Hid (Z1.rowIs Z.heap.size 30 6 (rowN [.int .i64 0, .int .i64 0, .int .i64 0, .int .i64 0, .slice none 0 0, .int .i64 0])) := by show World.rowIs _ _ _ _ _; rw [hZ1]; exact rowN_alloc _ _ _
      obtain ⟨xb, hxb⟩ : ∃ xb, xb = Z.heap.size := ⟨_, rfl⟩
      rw [← hxb] at HV
      have HXL : Hid (w2.heap.size ≤ xb) := by show _ ≤ _; rw [hxb]; exact hHeld.size
      go_simp
      rw [← hZ1, ← hxb]
      clear hZ1
      refine hK.out _ _ (hHeld.trans (hb.mono hHeld.size)) (fun hHeld2 => ?_)
      clear hK hHeld hxb hb
      have hHeld := hHeld2
      clear hHeld2
      refine wpAnyH_ready (rs := [1]) (by kernel_rfl) (by simp) (AllReadyH.cons (at_drop (i := 1) rfl) (fun K2 hK => ?_) (AllReadyH.nil))
      obtain ⟨Z2, hZ2⟩ : ∃ Z2, Z2 = Z1.alloc (.cells #[] 35) := ⟨_, rfl⟩
      have hb : Below Z1.heap.size Z1 Z2 := by rw [hZ2]; exact nbel_alloc _ _
      obtain ⟨gq, hgq⟩ : ∃ gq, gq = Z1.heap.size := ⟨_, rfl⟩
      have HO : Hid (Z2.ownsRow w2.heap.size 35 2 (.slice (some ⟨gq, 0, none⟩) 0 0) (([] : List Ln.Nt).length) (nvs [])) := by show World.ownsRow _ _ _ _ _ _ _; rw [hZ2, hgq]; exact own_low4 (World.ownsRow_made (e := 35) (size := 2) Z1 #[] 0 (Nat.le_refl _) (Nat.zero_le _) rfl) hHeld.size
      go_simp
      rw [← hZ2, ← hgq]
      clear hZ2 hgq
      have HV2 := Lib.hid (nrow_below HV.out hb)
      clear HV
      have HV := HV2
      clear HV2
      refine hK.out _ _ (hHeld.trans (hb.mono hHeld.size)) (fun hHeld2 => ?_)
      clear hK hHeld hb
      have hHeld := hHeld2
      clear hHeld2
      refine wpAnyH_ready (rs := [3]) (by kernel_rfl) (by simp) (AllReadyH.cons (at_drop (i := 3) rfl) (fun K2 hK => ?_) (AllReadyH.nil))
      have HMI : Hid (IsIn la (L.length * 2) (Ln.fl L) Z2) := (HC2.out.below hHeld).at_.in_
      refine step_append_ns rfl (.tmp 33) (.tmp 34) 25 rfl 35 i0 (.agg #[.int .i64 0, .int .i64 0]) 16 Tryd.underlying25 hi0 hz0 hz1 hz2 rfl w2.heap.size (.slice (some ⟨gq, 0, none⟩) 0 0) [] L rfl HO.out la lc rfl HMI.out (by unfold maxLen; simp; omega) (by simp; omega) hHeld.size ?_
      intro vP Z3 hown hgrow
      obtain ⟨aP, cP, rfl, hcy⟩ := cyo_own (l := L) (by simpa using hown)
      have HP := Lib.hid hcy
      clear hown hcy HMI
      have HV2 := Lib.hid (HV.out.of_block (hgrow.block _ HV.out.lt (fun e => dq_ne HO.out HV.out (by decide) e.symm rfl)))
      clear HV
      have HV := HV2
      clear HV2
      refine hK.out _ _ (hHeld.grown hgrow hHeld.size (fun k e => (World.ownsRow.lt HO.out k e).1)) (fun hHeld2 => ?_)
      clear hK hHeld hgrow HO
      have hHeld := hHeld2
      clear hHeld2
      simp only [Act.put, List.setIfInBounds_toArray, List.set_cons_zero, List.set_cons_succ]
      refine wpAnyH_ready (rs := [4]) (by kernel_rfl) (by simp) (AllReadyH.cons (at_drop (i := 4) rfl) (fun K2 hK => ?_) (AllReadyH.nil))
      go_simp
      refine (implMRun_any X aP L.length cP (Ln.fl L) _ HP.out.at_ (by omega) ⟨(HG.out.1.below HB2.out).below hHeld, tab_below (tab_below HG.out.2 HB2.out) hHeld⟩).mono ?_
      rintro e Z4 ⟨hE, hb⟩
      rcases hE with ⟨hno, _⟩ | ⟨_, aN, cN, rfl, hown⟩
      · exact absurd HOK.out hno
      rw [← HE.out]
      rw [← HU.out] at hown
      have HOW := Lib.hid (hown.low hHeld.size)
      clear hown HP
      have HV2 := Lib.hid (nrow_below HV.out hb)
      clear HV
      have HV := HV2
      clear HV2
      go_wp2_with fail
      refine hK.out _ _ (hHeld.trans (hb.mono hHeld.size)) (fun hHeld2 => ?_)
      clear hK hHeld hb
      have hHeld := hHeld2
      clear hHeld2
      have zr := mput6 HV.out rfl (.int .i64 E.d) (.int .i64 E.u) (.int .i64 E.day) (.int .i64 E.s) (.slice aN L.length cN) (.int .i64 0)
      have zk := fun (k : Nat) (hk : k ≠ xb) => mblk6 (W := Z4) hk (.int .i64 E.d) (.int .i64 E.u) (.int .i64 E.day) (.int .i64 E.s) (.slice aN L.length cN) (.int .i64 0)
      have zb := mbel6 (g := xb) hHeld HXL.out (.int .i64 E.d) (.int .i64 E.u) (.int .i64 E.day) (.int .i64 E.s) (.slice aN L.length cN) (.int .i64 0)
      obtain ⟨⟨o0, o1, o2, o3, o4, o5⟩, z0, z1, z2, z3, z4, z5⟩ := rowN6 HV.out
      have hol := HV.out.lt
      refine take_call (i := 6) rfl (by kernel_rfl) (fun K2 hK => ?_)
      go_simp
      clear o0 o1 o2 o3 o4 o5 z0 z1 z2 z3 z4 z5
      have zo : UsOwn w2.heap.size L.length aN cN U _ := HOW.out.same (fun k e _ => zk k (HOW.out.ne HV.out e))
      generalize ((((((Z4).setCell ⟨xb, 0, none⟩ (.int .i64 E.d)).setCell ⟨xb, 1, none⟩ (.int .i64 E.u)).setCell ⟨xb, 2, none⟩ (.int .i64 E.day)).setCell ⟨xb, 3, none⟩ (.int .i64 E.s)).setCell ⟨xb, 4, none⟩ (.slice aN L.length cN)).setCell ⟨xb, 5, none⟩ (.int .i64 0) = Wz at zr zk zb zo ⊢
      refine hK.out _ _ zb (fun hHeld2 => ?_)
      clear hK hHeld hHeld2
      refine wpAnyH_done (by kernel_rfl) ?_ _
      have HPR : Hid (PrM w2 E L.length 0 U xb aN cN Wz) := ⟨zb, zr, zo, HXL.out⟩
      clear zo
      clear zr zk zb
      go_wp2_with fail
      go_meet
      case rel => exact ⟨xb, aN, cN, rfl, HPR⟩
  case rest =>
    obtain ⟨xb, aN, cN, rfl, hPR⟩ := hcut
    obtain ⟨W3, hW3⟩ : ∃ W3, W3 = wc := ⟨_, rfl⟩
    rw [← hW3] at hPR ⊢
    clear hW3
    obtain ⟨D, hD⟩ : ∃ D : Nat → Int, D = fun i => (Mt.mAt X (Ln.fl L) i).day := ⟨_, rfl⟩
    have HCH : Hid (Mt.Ch U D L.length) := by show Mt.Ch _ _ _; rw [HU.out, hD]; exact Mt.run_ch HOK.out.2
    have HD0 : Hid (D 0 = X.day) := by show D 0 = _; rw [hD]; rfl
    have HDN : Hid (D L.length = E.day) := by show D _ = _; rw [hD, HE.out]
    have HDR : Hid (∀ i, D (i + 1) = Ln.fl L (i * 2)) := by show ∀ i, _; rw [hD]; exact fun i => Mt.day_next _ _ i
    have hn6 : L.length ≤ 60 := HOK.out.1
    have HXD : Hid (0 ≤ D 0 ∧ D L.length ≤ 100000) := by
      have h1 := HOK.out.2.1.2.1
      have h2 := (Mt.mAt_right HOK.out.2.1 L.length (fun j hj => HOK.out.2.2 j hj)).2.1
      rw [← HE.out] at h2
      show _ ∧ _
      rw [HD0.out, HDN.out]
      exact ⟨h1.1, h2.2⟩
    clear hD HE HU HOK
    have HS0 : Hid (UqS w X L la lc g xb E U aN cN W3) := by
      have q := hPR.out
      exact ⟨nrow_below HR2.out q.bel, HC2.out.below q.bel, q.row, q.own.cy.low HB2.out.size, HB2.out.trans (q.bel.mono HB2.out.size)⟩
    clear hPR HR2 HB2 HC2
    obtain ⟨⟨x0, x1, x2, x3⟩, _⟩ := rowN4 HS0.out.ra
    obtain ⟨⟨y0, y1, y2, y3, y4, y5⟩, _⟩ := rowN6 HS0.out.x
    rw [← HD0.out] at x2
    go_wp2_with fail
    clear x0 x1 x2 x3 y0 y1 y2 y3 y4 y5
    go_loopw [8, 9, 10] (fun av sv iv wr => ∃ (i : Nat), i ≤ L.length ∧ av = .int .i64 (D i) ∧ sv = .int .i64 (Mt.sw U i) ∧ iv = .int .i64 i ∧ Hid (UqS w X L la lc g xb E U aN cN wr)) (fun _ _ iv _ => L.length - (intOf iv).toNat)
    case atStart => exact ⟨0, Nat.zero_le _, rfl, rfl, rfl, HS0⟩
    case round =>
      obtain ⟨i, hi, rfl, rfl, rfl, hS⟩ := hrel
      clear HS0
      obtain ⟨d0, hd0⟩ : ∃ d, d = D i := ⟨_, rfl⟩
      obtain ⟨sx, hsx⟩ : ∃ s, s = Mt.sw U i := ⟨_, rfl⟩
      have hsb : 0 ≤ sx ∧ sx ≤ i * 1000000000 := by rw [hsx]; exact HCH.out.sw_bd i hi
      rw [← hd0, ← hsx]
      have Hd0 := Lib.hid hd0
      have Hsx := Lib.hid hsx
      clear hd0 hsx
      by_cases hlt : i < L.length
      · have hltz : (i : Int) < (L.length : Int) := by omega
        obtain ⟨d1, hd1⟩ : ∃ d, d = D (i + 1) := ⟨_, rfl⟩
        obtain ⟨wt, hwt⟩ : ∃ d, d = U (i * 4 + 2) := ⟨_, rfl⟩
        have HU0 : Hid (U (i * 4) = d0) := by show _ = _; rw [Hd0.out]; exact (HCH.out i hlt).2.1
        have HU1 : Hid (U (i * 4 + 1) = d1) := by show _ = _; rw [hd1]; exact (HCH.out i hlt).2.2
        have HU2 : Hid (U (i * 4 + 2) = wt) := hwt.symm
        have HL0 : Hid (Ln.fl L (i * 2) = d1) := by show _ = _; rw [hd1]; exact (HDR.out i).symm
        have hwb : 0 ≤ wt ∧ wt ≤ 1000000000 := by rw [hwt]; exact (HCH.out i hlt).1.2
        have hnw : ¬ wt < 0 := by omega
        have hws : IntKind.i64.wrap (sx + wt) = sx + wt := awrap_id (by omega) (by omega)
        have HSN : Hid (Mt.sw U (i + 1) = sx + wt) := by show Mt.sw U i + _ = _; rw [← Hsx.out, hwt]
        have Hd1 := Lib.hid hd1
        clear hd1 hwt
        obtain ⟨ub, eub, _⟩ := hS.out.rg.at_.at4 hlt
        obtain ⟨lb, elb, _⟩ := hS.out.ls.at_.at2 hlt
        subst eub elb
        obtain ⟨⟨y0, y1, y2, y3, y4, y5⟩, _⟩ := rowN6 hS.out.x
        go_wp2_with fail
        clear y0 y1 y2 y3 y4 y5
        refine wp_region_held_drew (S := fun V => Below wr.heap.size wr V) (by kernel_rfl) (Below.refl _ _).drew (fun hHeld => ?_)
        obtain ⟨V6, hV6⟩ : ∃ V6, V6 = wr.drew := ⟨_, rfl⟩
        rw [← hV6] at hHeld ⊢
        clear hV6
        refine take_do (i := 0) (v := (.pointer (some ⟨xb, 4, none⟩))) rfl (by kernel_rfl) (by kernel_rfl) (by kernel_rfl) (fun _ _ _ h => h) (by rfl) ?_ (by assumption) ?_
        · intro w hSw
          go_simp
        simp only [Act.put, List.setIfInBounds_toArray, List.set_cons_zero, List.set_cons_succ]
        refine take_do (i := 1) (v := (.slice (some ⟨ub, 0, none⟩) L.length cN)) rfl (by kernel_rfl) (by kernel_rfl) (by kernel_rfl) (fun _ _ _ h => h) (by rfl) ?_ (by assumption) ?_
        · intro w hSw
          obtain ⟨⟨y0, y1, y2, y3, y4, y5⟩, _⟩ := rowN6 (nrow_below hS.out.x hSw)
          go_simp
        simp only [Act.put, List.setIfInBounds_toArray, List.set_cons_zero, List.set_cons_succ]
        refine take_do (i := 2) (v := (.int .i64 i)) rfl (by kernel_rfl) (by kernel_rfl) (by kernel_rfl) (fun _ _ _ h => h) (by rfl) ?_ (by assumption) ?_
        · intro w hSw
          go_simp
        simp only [Act.put, List.setIfInBounds_toArray, List.set_cons_zero, List.set_cons_succ]
        refine take_do (i := 3) (v := (.pointer (some ⟨ub, i * 4, none⟩))) rfl (by kernel_rfl) (by kernel_rfl) (by kernel_rfl) (fun _ _ _ h => h) (by rfl) ?_ (by assumption) ?_
        · intro w hSw
          go_simp
        simp only [Act.put, List.setIfInBounds_toArray, List.set_cons_zero, List.set_cons_succ]
        refine take_do (i := 4) (v := (.pointer (some ⟨ub, i * 4, none⟩))) rfl (by kernel_rfl) (by kernel_rfl) (by kernel_rfl) (fun _ _ _ h => h) (by rfl) ?_ (by assumption) ?_
        · intro w hSw
          go_simp
        simp only [Act.put, List.setIfInBounds_toArray, List.set_cons_zero, List.set_cons_succ]
        refine take_do (i := 5) (v := (.int .i64 d0)) rfl (by kernel_rfl) (by kernel_rfl) (by kernel_rfl) (fun _ _ _ h => h) (by rfl) ?_ (by assumption) ?_
        · intro w hSw
          obtain ⟨ub', eub', c0, c1, c2, c3⟩ := (hS.out.rg.below hSw).at_.at4 hlt
          cases eub'
          rw [HU0.out] at c0
          rw [HU1.out] at c1
          rw [HU2.out] at c2
          go_simp
        simp only [Act.put, List.setIfInBounds_toArray, List.set_cons_zero, List.set_cons_succ]
        refine take_do (i := 6) (v := (.int .i64 d0)) rfl (by kernel_rfl) (by kernel_rfl) (by kernel_rfl) (fun _ _ _ h => h) (by rfl) ?_ (by assumption) ?_
        · intro w hSw
          go_simp
        simp only [Act.put, List.setIfInBounds_toArray, List.set_cons_zero, List.set_cons_succ]
        refine take_do (i := 7) (v := (.bool false)) rfl (by kernel_rfl) (by kernel_rfl) (by kernel_rfl) (fun _ _ _ h => h) (by rfl) ?_ (by assumption) ?_
        · intro w hSw
          go_simp
        simp only [Act.put, List.setIfInBounds_toArray, List.set_cons_zero, List.set_cons_succ]
        refine take_do (i := 8) (v := (.bool false)) rfl (by kernel_rfl) (by kernel_rfl) (by kernel_rfl) (fun _ _ _ h => h) (by rfl) ?_ (by assumption) ?_
        · intro w hSw
          go_simp
        simp only [Act.put, List.setIfInBounds_toArray, List.set_cons_zero, List.set_cons_succ]
        refine take_do (i := 9) (v := (.pointer (some ⟨xb, 4, none⟩))) rfl (by kernel_rfl) (by kernel_rfl) (by kernel_rfl) (fun _ _ _ h => h) (by rfl) ?_ (by assumption) ?_
        · intro w hSw
          go_simp
        simp only [Act.put, List.setIfInBounds_toArray, List.set_cons_zero, List.set_cons_succ]
        refine take_do (i := 10) (v := (.slice (some ⟨ub, 0, none⟩) L.length cN)) rfl (by kernel_rfl) (by kernel_rfl) (by kernel_rfl) (fun _ _ _ h => h) (by rfl) ?_ (by assumption) ?_
        · intro w hSw
          obtain ⟨⟨y0, y1, y2, y3, y4, y5⟩, _⟩ := rowN6 (nrow_below hS.out.x hSw)
          go_simp
        simp only [Act.put, List.setIfInBounds_toArray, List.set_cons_zero, List.set_cons_succ]
        refine take_do (i := 11) (v := (.int .i64 i)) rfl (by kernel_rfl) (by kernel_rfl) (by kernel_rfl) (fun _ _ _ h => h) (by rfl) ?_ (by assumption) ?_
        · intro w hSw
          go_simp
        simp only [Act.put, List.setIfInBounds_toArray, List.set_cons_zero, List.set_cons_succ]
        refine take_do (i := 12) (v := (.pointer (some ⟨ub, i * 4, none⟩))) rfl (by kernel_rfl) (by kernel_rfl) (by kernel_rfl) (fun _ _ _ h => h) (by rfl) ?_ (by assumption) ?_
        · intro w hSw
          go_simp
        simp only [Act.put, List.setIfInBounds_toArray, List.set_cons_zero, List.set_cons_succ]
        refine take_do (i := 13) (v := (.pointer (some ⟨ub, i * 4 + 1, none⟩))) rfl (by kernel_rfl) (by kernel_rfl) (by kernel_rfl) (fun _ _ _ h => h) (by rfl) ?_ (by assumption) ?_
        · intro w hSw
          go_simp
        simp only [Act.put, List.setIfInBounds_toArray, List.set_cons_zero, List.set_cons_succ]
        refine take_do (i := 14) (v := (.int .i64 d1)) rfl (by kernel_rfl) (by kernel_rfl) (by kernel_rfl) (fun _ _ _ h => h) (by rfl) ?_ (by assumption) ?_
        · intro w hSw
          obtain ⟨ub', eub', c0, c1, c2, c3⟩ := (hS.out.rg.below hSw).at_.at4 hlt
          cases eub'
          rw [HU0.out] at c0
          rw [HU1.out] at c1
          rw [HU2.out] at c2
          go_simp
        simp only [Act.put, List.setIfInBounds_toArray, List.set_cons_zero, List.set_cons_succ]
        refine take_do (i := 15) (v := (.slice (some ⟨lb, 0, none⟩) L.length lc)) rfl (by kernel_rfl) (by kernel_rfl) (by kernel_rfl) (fun _ _ _ h => h) (by rfl) ?_ (by assumption) ?_
        · intro w hSw
          go_simp
        simp only [Act.put, List.setIfInBounds_toArray, List.set_cons_zero, List.set_cons_succ]
        refine take_do (i := 16) (v := (.int .i64 i)) rfl (by kernel_rfl) (by kernel_rfl) (by kernel_rfl) (fun _ _ _ h => h) (by rfl) ?_ (by assumption) ?_
        · intro w hSw
          go_simp
        simp only [Act.put, List.setIfInBounds_toArray, List.set_cons_zero, List.set_cons_succ]
        refine take_do (i := 17) (v := (.pointer (some ⟨lb, i * 2, none⟩))) rfl (by kernel_rfl) (by kernel_rfl) (by kernel_rfl) (fun _ _ _ h => h) (by rfl) ?_ (by assumption) ?_
        · intro w hSw
          go_simp
        simp only [Act.put, List.setIfInBounds_toArray, List.set_cons_zero, List.set_cons_succ]
        refine take_do (i := 18) (v := (.pointer (some ⟨lb, i * 2, none⟩))) rfl (by kernel_rfl) (by kernel_rfl) (by kernel_rfl) (fun _ _ _ h => h) (by rfl) ?_ (by assumption) ?_
        · intro w hSw
          go_simp
        simp only [Act.put, List.setIfInBounds_toArray, List.set_cons_zero, List.set_cons_succ]
        refine take_do (i := 19) (v := (.int .i64 d1)) rfl (by kernel_rfl) (by kernel_rfl) (by kernel_rfl) (fun _ _ _ h => h) (by rfl) ?_ (by assumption) ?_
        · intro w hSw
          obtain ⟨lb', elb', c0, c1⟩ := (hS.out.ls.below hSw).at_.at2 hlt
          cases elb'
          rw [HL0.out] at c0
          go_simp
        simp only [Act.put, List.setIfInBounds_toArray, List.set_cons_zero, List.set_cons_succ]
        refine take_do (i := 20) (v := (.bool false)) rfl (by kernel_rfl) (by kernel_rfl) (by kernel_rfl) (fun _ _ _ h => h) (by rfl) ?_ (by assumption) ?_
        · intro w hSw
          go_simp
        simp only [Act.put, List.setIfInBounds_toArray, List.set_cons_zero, List.set_cons_succ]
        refine take_do (i := 21) (v := (.bool false)) rfl (by kernel_rfl) (by kernel_rfl) (by kernel_rfl) (fun _ _ _ h => h) (by rfl) ?_ (by assumption) ?_
        · intro w hSw
          go_simp
        simp only [Act.put, List.setIfInBounds_toArray, List.set_cons_zero, List.set_cons_succ]
        refine take_do (i := 22) (v := (.bool false)) rfl (by kernel_rfl) (by kernel_rfl) (by kernel_rfl) (fun _ _ _ h => h) (by rfl) ?_ (by assumption) ?_
        · intro w hSw
          go_simp
        simp only [Act.put, List.setIfInBounds_toArray, List.set_cons_zero, List.set_cons_succ]
        refine take_do (i := 23) (v := (.pointer (some ⟨xb, 4, none⟩))) rfl (by kernel_rfl) (by kernel_rfl) (by kernel_rfl) (fun _ _ _ h => h) (by rfl) ?_ (by assumption) ?_
        · intro w hSw
          go_simp
        simp only [Act.put, List.setIfInBounds_toArray, List.set_cons_zero, List.set_cons_succ]
        refine take_do (i := 24) (v := (.slice (some ⟨ub, 0, none⟩) L.length cN)) rfl (by kernel_rfl) (by kernel_rfl) (by kernel_rfl) (fun _ _ _ h => h) (by rfl) ?_ (by assumption) ?_
        · intro w hSw
          obtain ⟨⟨y0, y1, y2, y3, y4, y5⟩, _⟩ := rowN6 (nrow_below hS.out.x hSw)
          go_simp
        simp only [Act.put, List.setIfInBounds_toArray, List.set_cons_zero, List.set_cons_succ]
        refine take_do (i := 25) (v := (.int .i64 i)) rfl (by kernel_rfl) (by kernel_rfl) (by kernel_rfl) (fun _ _ _ h => h) (by rfl) ?_ (by assumption) ?_
        · intro w hSw
          go_simp
        simp only [Act.put, List.setIfInBounds_toArray, List.set_cons_zero, List.set_cons_succ]
        refine take_do (i := 26) (v := (.pointer (some ⟨ub, i * 4, none⟩))) rfl (by kernel_rfl) (by kernel_rfl) (by kernel_rfl) (fun _ _ _ h => h) (by rfl) ?_ (by assumption) ?_
        · intro w hSw
          go_simp
        simp only [Act.put, List.setIfInBounds_toArray, List.set_cons_zero, List.set_cons_succ]
        refine take_do (i := 27) (v := (.pointer (some ⟨ub, i * 4 + 2, none⟩))) rfl (by kernel_rfl) (by kernel_rfl) (by kernel_rfl) (fun _ _ _ h => h) (by rfl) ?_ (by assumption) ?_
        · intro w hSw
          go_simp
        simp only [Act.put, List.setIfInBounds_toArray, List.set_cons_zero, List.set_cons_succ]
        refine take_do (i := 28) (v := (.int .i64 wt)) rfl (by kernel_rfl) (by kernel_rfl) (by kernel_rfl) (fun _ _ _ h => h) (by rfl) ?_ (by assumption) ?_
        · intro w hSw
          obtain ⟨ub', eub', c0, c1, c2, c3⟩ := (hS.out.rg.below hSw).at_.at4 hlt
          cases eub'
          rw [HU0.out] at c0
          rw [HU1.out] at c1
          rw [HU2.out] at c2
          go_simp
        simp only [Act.put, List.setIfInBounds_toArray, List.set_cons_zero, List.set_cons_succ]
        refine take_do (i := 29) (v := (.bool false)) rfl (by kernel_rfl) (by kernel_rfl) (by kernel_rfl) (fun _ _ _ h => h) (by rfl) ?_ (by assumption) ?_
        · intro w hSw
          go_simp
        simp only [Act.put, List.setIfInBounds_toArray, List.set_cons_zero, List.set_cons_succ]
        refine take_do (i := 30) (v := (.bool false)) rfl (by kernel_rfl) (by kernel_rfl) (by kernel_rfl) (fun _ _ _ h => h) (by rfl) ?_ (by assumption) ?_
        · intro w hSw
          go_simp
        simp only [Act.put, List.setIfInBounds_toArray, List.set_cons_zero, List.set_cons_succ]
        refine wpAnyH_done (by kernel_rfl) ?_ _
        have HS8 := Lib.hid (hS.out.below hHeld)
        clear hHeld hS
        obtain ⟨⟨y0, y1, y2, y3, y4, y5⟩, _⟩ := rowN6 HS8.out.x
        obtain ⟨ub', eub', c0, c1, c2, c3⟩ := HS8.out.rg.at_.at4 hlt
        cases eub'
        rw [HU1.out] at c1
        rw [HU2.out] at c2
        go_wp2_with fail
        go_roundw
        case rel => exact ⟨i + 1, by omega, by rw [Hd1.out], by rw [HSN.out], by go_num, HS8⟩
        case measure => simp [intOf]; omega
      · have hltz : ¬ (i : Int) < (L.length : Int) := by omega
        have ei : i = L.length := by omega
        subst ei
        have HDE : Hid (E.day = d0) := by show _ = _; rw [Hd0.out, HDN.out]
        have hd : D 0 ≤ d0 := by rw [Hd0.out]; exact HCH.out.le (Nat.zero_le _) (Nat.le_refl _)
        have hd1 : 0 ≤ D 0 ∧ d0 ≤ 100000 := by rw [Hd0.out]; exact HXD.out
        have HWH : Hid (Mt.useOf L.length U (D 0) d0 = sx) := by
          show _ = _
          rw [Mt.useOf_ok ⟨by omega, hd, fun j hj => (HCH.out j hj).1⟩, Hd0.out, HCH.out.whole L.length (Nat.le_refl _), Hsx.out]
        have HX0 : Hid (X.day = D 0) := HD0.out.symm
        clear hlt
        obtain ⟨⟨y0, y1, y2, y3, y4, y5⟩, _⟩ := rowN6 hS.out.x
        go_wp2_with fail
        clear y0 y1 y2 y3 y4 y5
        refine wp_region_held_drew (S := fun V => Below wr.heap.size wr V) (by kernel_rfl) (Below.refl _ _).drew (fun hHeld => ?_)
        obtain ⟨V6, hV6⟩ : ∃ V6, V6 = wr.drew := ⟨_, rfl⟩
        rw [← hV6] at hHeld ⊢
        clear hV6
        refine take_do (i := 0) (v := (.pointer (some ⟨xb, 0, none⟩))) rfl (by kernel_rfl) (by kernel_rfl) (by kernel_rfl) (fun _ _ _ h => h) (by rfl) ?_ (by assumption) ?_
        · intro w hSw
          go_simp
        simp only [Act.put, List.setIfInBounds_toArray, List.set_cons_zero, List.set_cons_succ]
        refine take_do (i := 1) (v := (.pointer (some ⟨xb, 2, none⟩))) rfl (by kernel_rfl) (by kernel_rfl) (by kernel_rfl) (fun _ _ _ h => h) (by rfl) ?_ (by assumption) ?_
        · intro w hSw
          go_simp
        simp only [Act.put, List.setIfInBounds_toArray, List.set_cons_zero, List.set_cons_succ]
        refine take_do (i := 2) (v := (.int .i64 d0)) rfl (by kernel_rfl) (by kernel_rfl) (by kernel_rfl) (fun _ _ _ h => h) (by rfl) ?_ (by assumption) ?_
        · intro w hSw
          obtain ⟨⟨y0, y1, y2, y3, y4, y5⟩, _⟩ := rowN6 (nrow_below hS.out.x hSw)
          rw [HDE.out] at y2
          go_simp
        simp only [Act.put, List.setIfInBounds_toArray, List.set_cons_zero, List.set_cons_succ]
        refine take_do (i := 3) (v := (.int .i64 d0)) rfl (by kernel_rfl) (by kernel_rfl) (by kernel_rfl) (fun _ _ _ h => h) (by rfl) ?_ (by assumption) ?_
        · intro w hSw
          go_simp
        simp only [Act.put, List.setIfInBounds_toArray, List.set_cons_zero, List.set_cons_succ]
        refine take_do (i := 4) (v := (.bool false)) rfl (by kernel_rfl) (by kernel_rfl) (by kernel_rfl) (fun _ _ _ h => h) (by rfl) ?_ (by assumption) ?_
        · intro w hSw
          go_simp
        simp only [Act.put, List.setIfInBounds_toArray, List.set_cons_zero, List.set_cons_succ]
        refine take_do (i := 5) (v := (.bool false)) rfl (by kernel_rfl) (by kernel_rfl) (by kernel_rfl) (fun _ _ _ h => h) (by rfl) ?_ (by assumption) ?_
        · intro w hSw
          go_simp
        simp only [Act.put, List.setIfInBounds_toArray, List.set_cons_zero, List.set_cons_succ]
        refine take_do (i := 7) (v := (.pointer (some ⟨xb, 4, none⟩))) rfl (by kernel_rfl) (by kernel_rfl) (by kernel_rfl) (fun _ _ _ h => h) (by rfl) ?_ (by assumption) ?_
        · intro w hSw
          go_simp
        simp only [Act.put, List.setIfInBounds_toArray, List.set_cons_zero, List.set_cons_succ]
        refine take_do (i := 8) (v := (.slice aN L.length cN)) rfl (by kernel_rfl) (by kernel_rfl) (by kernel_rfl) (fun _ _ _ h => h) (by rfl) ?_ (by assumption) ?_
        · intro w hSw
          obtain ⟨⟨y0, y1, y2, y3, y4, y5⟩, _⟩ := rowN6 (nrow_below hS.out.x hSw)
          rw [HDE.out] at y2
          go_simp
        simp only [Act.put, List.setIfInBounds_toArray, List.set_cons_zero, List.set_cons_succ]
        refine take_do (i := 10) (v := (.pointer (some ⟨g, 2, none⟩))) rfl (by kernel_rfl) (by kernel_rfl) (by kernel_rfl) (fun _ _ _ h => h) (by rfl) ?_ (by assumption) ?_
        · intro w hSw
          go_simp
        simp only [Act.put, List.setIfInBounds_toArray, List.set_cons_zero, List.set_cons_succ]
        refine take_do (i := 11) (v := (.int .i64 (D 0))) rfl (by kernel_rfl) (by kernel_rfl) (by kernel_rfl) (fun _ _ _ h => h) (by rfl) ?_ (by assumption) ?_
        · intro w hSw
          obtain ⟨⟨m0, m1, m2, m3⟩, _⟩ := rowN4 (nrow_below hS.out.ra hSw)
          rw [HX0.out] at m2
          go_simp
        simp only [Act.put, List.setIfInBounds_toArray, List.set_cons_zero, List.set_cons_succ]
        refine take_do (i := 12) (v := (.int .i64 d0)) rfl (by kernel_rfl) (by kernel_rfl) (by kernel_rfl) (fun _ _ _ h => h) (by rfl) ?_ (by assumption) ?_
        · intro w hSw
          go_simp
        simp only [Act.put, List.setIfInBounds_toArray, List.set_cons_zero, List.set_cons_succ]
        refine take_do (i := 14) (v := (.int .i64 sx)) rfl (by kernel_rfl) (by kernel_rfl) (by kernel_rfl) (fun _ _ _ h => h) (by rfl) ?_ (by assumption) ?_
        · intro w hSw
          go_simp
        simp only [Act.put, List.setIfInBounds_toArray, List.set_cons_zero, List.set_cons_succ]
        refine take_call (i := 6) rfl (by kernel_rfl) (fun K2 hK => ?_)
        rw [if_pos (by rfl)]
        obtain ⟨Z1, hZ1⟩ : ∃ Z1, Z1 = V6.alloc (.cells #[] 33) := ⟨_, rfl⟩
        have hb : Below V6.heap.size V6 Z1 := by rw [hZ1]; exact nbel_alloc _ _
        obtain ⟨gq, hgq⟩ : ∃ gq, gq = V6.heap.size := ⟨_, rfl⟩
        have HO : Hid (Z1.ownsRow wr.heap.size 33 4 (.slice (some ⟨gq, 0, none⟩) 0 0) 0 []) := by show World.ownsRow _ _ _ _ _ _ _; rw [hZ1, hgq]; exact own_low4 (World.ownsRow_made (e := 33) (size := 4) V6 #[] 0 (Nat.le_refl _) (Nat.zero_le _) rfl) hHeld.size
        go_simp
        rw [← hZ1, ← hgq]
        refine hK.out _ _ (hHeld.trans (hb.mono hHeld.size)) (fun hHeld2 => ?_)
        clear hK hHeld hb hZ1 hgq
        have hHeld := hHeld2
        clear hHeld2
        refine take_call (i := 9) rfl (by kernel_rfl) (fun K2 hK => ?_)
        rw [if_pos (by rfl)]
        have HMI : Hid (IsIn aN (L.length * 4) U Z1) := (hS.out.rg.below hHeld).at_.in_
        refine wp_append_us 4 (by decide) (.tmp 108) (.tmp 110) 28 rfl 33 j0 (.agg #[.int .i64 0, .int .i64 0, .int .i64 0, .int .i64 0]) 32 Tryd.underlying28 hj0 hy0 hy1 hy2 rfl wr.heap.size (.slice (some ⟨gq, 0, none⟩) 0 0) rfl HO.out aN L.length cN U rfl HMI.out (by unfold maxLen; omega) (by omega) hHeld.size ?_
        intro vP Z2 hown hgrow
        obtain ⟨aP, cP, rfl, hcy⟩ := cyo_ivs hown
        have HP := Lib.hid hcy
        refine hK.out _ _ (hHeld.grown hgrow hHeld.size (fun k e => (World.ownsRow.lt HO.out k e).1)) (fun hHeld2 => ?_)
        clear hK hHeld hown hgrow hcy HMI HO
        have hHeld := hHeld2
        clear hHeld2
        simp only [Act.put, List.setIfInBounds_toArray, List.set_cons_zero, List.set_cons_succ]
        refine take_call (i := 13) rfl (by kernel_rfl) (fun K2 hK => ?_)
        rw [if_pos (by rfl)]
        go_simp
        refine (implUse_any aP L.length cP U (D 0) d0 _ HP.out.at_ (by omega)).mono ?_
        rintro e V18 ⟨rfl, hb⟩
        rw [HWH.out]
        go_wp2_with fail
        refine hK.out _ _ (hHeld.trans (hb.mono hHeld.size)) (fun hHeld2 => ?_)
        clear hK hHeld hb HP
        have hHeld := hHeld2
        clear hHeld2
        refine take_do (i := 15) (v := (.bool false)) rfl (by kernel_rfl) (by kernel_rfl) (by kernel_rfl) (fun _ _ _ h => h) (by rfl) ?_ (by assumption) ?_
        · intro w hSw
          go_simp
        simp only [Act.put, List.setIfInBounds_toArray, List.set_cons_zero, List.set_cons_succ]
        refine take_do (i := 16) (v := (.bool false)) rfl (by kernel_rfl) (by kernel_rfl) (by kernel_rfl) (fun _ _ _ h => h) (by rfl) ?_ (by assumption) ?_
        · intro w hSw
          go_simp
        simp only [Act.put, List.setIfInBounds_toArray, List.set_cons_zero, List.set_cons_succ]
        refine wpAnyH_done (by kernel_rfl) ?_ _
        have HS7 := Lib.hid (hS.out.below hHeld)
        clear hHeld hS
        go_wp2_with fail
        refine wp_region_held_drew (S := fun V => Below V18.heap.size V18 V) (by kernel_rfl) (Below.refl _ _).drew (fun hHeld => ?_)
        obtain ⟨V7, hV7⟩ : ∃ V7, V7 = V18.drew := ⟨_, rfl⟩
        rw [← hV7] at hHeld ⊢
        clear hV7
        have hw6 : IntKind.i64.wrap (d0 - D 0) = d0 - D 0 := awrap_id (by omega) (by omega)
        have hw7 : IntKind.i64.wrap (d0 - D 0 + 1) = d0 - D 0 + 1 := awrap_id (by omega) (by omega)
        refine take_do (i := 0) (v := (.pointer (some ⟨g, 2, none⟩))) rfl (by kernel_rfl) (by kernel_rfl) (by kernel_rfl) (fun _ _ _ h => h) (by rfl) ?_ (by assumption) ?_
        · intro w hSw
          go_simp
        simp only [Act.put, List.setIfInBounds_toArray, List.set_cons_zero, List.set_cons_succ]
        refine take_do (i := 1) (v := (.int .i64 (D 0))) rfl (by kernel_rfl) (by kernel_rfl) (by kernel_rfl) (fun _ _ _ h => h) (by rfl) ?_ (by assumption) ?_
        · intro w hSw
          obtain ⟨⟨m0, m1, m2, m3⟩, _⟩ := rowN4 (nrow_below HS7.out.ra hSw)
          rw [HX0.out] at m2
          go_simp
        simp only [Act.put, List.setIfInBounds_toArray, List.set_cons_zero, List.set_cons_succ]
        refine take_do (i := 2) (v := (.slice a2 len2 cap2)) rfl (by kernel_rfl) (by kernel_rfl) (by kernel_rfl) (fun _ _ _ h => h) (by rfl) ?_ (by assumption) ?_
        · intro w hSw
          go_simp
        simp only [Act.put, List.setIfInBounds_toArray, List.set_cons_zero, List.set_cons_succ]
        refine take_do (i := 3) (v := (.int .i64 d0)) rfl (by kernel_rfl) (by kernel_rfl) (by kernel_rfl) (fun _ _ _ h => h) (by rfl) ?_ (by assumption) ?_
        · intro w hSw
          go_simp
        simp only [Act.put, List.setIfInBounds_toArray, List.set_cons_zero, List.set_cons_succ]
        refine take_do (i := 4) (v := (.pointer (some ⟨g, 2, none⟩))) rfl (by kernel_rfl) (by kernel_rfl) (by kernel_rfl) (fun _ _ _ h => h) (by rfl) ?_ (by assumption) ?_
        · intro w hSw
          go_simp
        simp only [Act.put, List.setIfInBounds_toArray, List.set_cons_zero, List.set_cons_succ]
        refine take_do (i := 5) (v := (.int .i64 (D 0))) rfl (by kernel_rfl) (by kernel_rfl) (by kernel_rfl) (fun _ _ _ h => h) (by rfl) ?_ (by assumption) ?_
        · intro w hSw
          obtain ⟨⟨m0, m1, m2, m3⟩, _⟩ := rowN4 (nrow_below HS7.out.ra hSw)
          rw [HX0.out] at m2
          go_simp
        simp only [Act.put, List.setIfInBounds_toArray, List.set_cons_zero, List.set_cons_succ]
        refine take_do (i := 6) (v := (.int .i64 (d0 - D 0))) rfl (by kernel_rfl) (by kernel_rfl) (by kernel_rfl) (fun _ _ _ h => h) (by rfl) ?_ (by assumption) ?_
        · intro w hSw
          go_simp
        simp only [Act.put, List.setIfInBounds_toArray, List.set_cons_zero, List.set_cons_succ]
        refine take_do (i := 7) (v := (.int .i64 (d0 - D 0 + 1))) rfl (by kernel_rfl) (by kernel_rfl) (by kernel_rfl) (fun _ _ _ h => h) (by rfl) ?_ (by assumption) ?_
        · intro w hSw
          go_simp
        simp only [Act.put, List.setIfInBounds_toArray, List.set_cons_zero, List.set_cons_succ]
        refine take_call (i := 8) rfl (by kernel_rfl) (fun K2 hK => ?_)
        go_simp
        refine (lwAt_any a2 len2 cap2 0 (d0 - D 0 + 1) _ (H2.out.below (HS7.out.below hHeld).old) HL2.out (by omega) (by omega) (by omega)).mono ?_
        rintro e Z4 ⟨⟨v, rfl, v0, v1, v2⟩, hw⟩
        rw [hw]
        clear hw Z4
        obtain ⟨ct, hc⟩ : ∃ c, c = D 0 + v := ⟨_, rfl⟩
        have hct : D 0 ≤ ct ∧ ct ≤ d0 := by have := v2 (by omega); omega
        have hcw : IntKind.i64.wrap (D 0 + v) = ct := by rw [hc]; exact awrap_id (by omega) (by omega)
        clear hc v0 v1 v2
        go_wp2_with fail
        refine hK.out _ _ hHeld (fun hHeld2 => ?_)
        clear hK hHeld
        have hHeld := hHeld2
        clear hHeld2
        refine take_do (i := 9) (v := (.int .i64 ct)) rfl (by kernel_rfl) (by kernel_rfl) (by kernel_rfl) (fun _ _ _ h => h) (by rfl) ?_ (by assumption) ?_
        · intro w hSw
          go_simp
        simp only [Act.put, List.setIfInBounds_toArray, List.set_cons_zero, List.set_cons_succ]
        refine take_do (i := 10) (v := (.int .i64 ct)) rfl (by kernel_rfl) (by kernel_rfl) (by kernel_rfl) (fun _ _ _ h => h) (by rfl) ?_ (by assumption) ?_
        · intro w hSw
          go_simp
        simp only [Act.put, List.setIfInBounds_toArray, List.set_cons_zero, List.set_cons_succ]
        clear hcw
        obtain ⟨V20, hV20⟩ : ∃ V, V = V7 := ⟨_, rfl⟩
        rw [← hV20] at hHeld ⊢
        clear hV20
        refine wpAnyH_done (by kernel_rfl) ?_ _
        have HS8 := Lib.hid (HS7.out.below hHeld)
        clear hHeld HS7 hw6 hw7
        obtain ⟨A, hA⟩ : ∃ A, A = Mt.useOf L.length U (D 0) ct := ⟨_, rfl⟩
        obtain ⟨C, hC⟩ : ∃ C, C = Mt.useOf L.length U ct d0 := ⟨_, rfl⟩
        have HAC : Hid ((0 ≤ A ∧ 0 ≤ C) ∧ sx - 1 ≤ A + C ∧ A + C ≤ sx) := by
          show _ ∧ _
          have q := (HCH.out.cut (c := ct) hct.1 (by rw [← Hd0.out]; exact hct.2) L.length (Nat.le_refl _)).2
          have r1 := Mt.sum_bd (U := U) (a := D 0) (b := ct) hct.1 L.length (fun j hj => (HCH.out j hj).1)
          have r2 := Mt.sum_bd (U := U) (a := ct) (b := d0) hct.2 L.length (fun j hj => (HCH.out j hj).1)
          rw [hA, hC, Mt.useOf_ok ⟨by omega, hct.1, fun j hj => (HCH.out j hj).1⟩, Mt.useOf_ok ⟨by omega, hct.2, fun j hj => (HCH.out j hj).1⟩]
          rw [← Hd0.out, ← Hsx.out] at q
          exact ⟨⟨r1.1, r2.1⟩, q.1, q.2⟩
        have HA := Lib.hid hA
        have HCC := Lib.hid hC
        clear hA hC hct
        go_wp2_with fail
        refine wp_region_held_drew (S := fun V => Below V20.heap.size V20 V) (by kernel_rfl) (Below.refl _ _).drew (fun hHeld => ?_)
        obtain ⟨V8, hV8⟩ : ∃ V8, V8 = V20.drew := ⟨_, rfl⟩
        rw [← hV8] at hHeld ⊢
        clear hV8
        refine take_do (i := 1) (v := (.pointer (some ⟨xb, 4, none⟩))) rfl (by kernel_rfl) (by kernel_rfl) (by kernel_rfl) (fun _ _ _ h => h) (by rfl) ?_ (by assumption) ?_
        · intro w hSw
          go_simp
        simp only [Act.put, List.setIfInBounds_toArray, List.set_cons_zero, List.set_cons_succ]
        refine take_do (i := 2) (v := (.slice aN L.length cN)) rfl (by kernel_rfl) (by kernel_rfl) (by kernel_rfl) (fun _ _ _ h => h) (by rfl) ?_ (by assumption) ?_
        · intro w hSw
          obtain ⟨⟨y0, y1, y2, y3, y4, y5⟩, _⟩ := rowN6 (nrow_below HS8.out.x hSw)
          rw [HDE.out] at y2
          go_simp
        simp only [Act.put, List.setIfInBounds_toArray, List.set_cons_zero, List.set_cons_succ]
        refine take_do (i := 4) (v := (.pointer (some ⟨g, 2, none⟩))) rfl (by kernel_rfl) (by kernel_rfl) (by kernel_rfl) (fun _ _ _ h => h) (by rfl) ?_ (by assumption) ?_
        · intro w hSw
          go_simp
        simp only [Act.put, List.setIfInBounds_toArray, List.set_cons_zero, List.set_cons_succ]
        refine take_do (i := 5) (v := (.int .i64 (D 0))) rfl (by kernel_rfl) (by kernel_rfl) (by kernel_rfl) (fun _ _ _ h => h) (by rfl) ?_ (by assumption) ?_
        · intro w hSw
          obtain ⟨⟨m0, m1, m2, m3⟩, _⟩ := rowN4 (nrow_below HS8.out.ra hSw)
          rw [HX0.out] at m2
          go_simp
        simp only [Act.put, List.setIfInBounds_toArray, List.set_cons_zero, List.set_cons_succ]
        refine take_do (i := 6) (v := (.int .i64 ct)) rfl (by kernel_rfl) (by kernel_rfl) (by kernel_rfl) (fun _ _ _ h => h) (by rfl) ?_ (by assumption) ?_
        · intro w hSw
          go_simp
        simp only [Act.put, List.setIfInBounds_toArray, List.set_cons_zero, List.set_cons_succ]
        refine take_call (i := 0) rfl (by kernel_rfl) (fun K2 hK => ?_)
        obtain ⟨Z5, hZ5⟩ : ∃ Z5, Z5 = V8.alloc (.cells #[] 33) := ⟨_, rfl⟩
        have hb : Below V8.heap.size V8 Z5 := by rw [hZ5]; exact nbel_alloc _ _
        obtain ⟨gq, hgq⟩ : ∃ gq, gq = V8.heap.size := ⟨_, rfl⟩
        have HO : Hid (Z5.ownsRow V20.heap.size 33 4 (.slice (some ⟨gq, 0, none⟩) 0 0) 0 []) := by show World.ownsRow _ _ _ _ _ _ _; rw [hZ5, hgq]; exact own_low4 (World.ownsRow_made (e := 33) (size := 4) V8 #[] 0 (Nat.le_refl _) (Nat.zero_le _) rfl) hHeld.size
        go_simp
        rw [← hZ5, ← hgq]
        refine hK.out _ _ (hHeld.trans (hb.mono hHeld.size)) (fun hHeld2 => ?_)
        clear hK hHeld hb hZ5 hgq
        have hHeld := hHeld2
        clear hHeld2
        refine take_call (i := 3) rfl (by kernel_rfl) (fun K2 hK => ?_)
        rw [if_pos (by rfl)]
        have HMI : Hid (IsIn aN (L.length * 4) U Z5) := (HS8.out.rg.below hHeld).at_.in_
        refine wp_append_us 4 (by decide) (.tmp 129) (.tmp 131) 28 rfl 33 j0 (.agg #[.int .i64 0, .int .i64 0, .int .i64 0, .int .i64 0]) 32 Tryd.underlying28 hj0 hy0 hy1 hy2 rfl V20.heap.size (.slice (some ⟨gq, 0, none⟩) 0 0) rfl HO.out aN L.length cN U rfl HMI.out (by unfold maxLen; omega) (by omega) hHeld.size ?_
        intro vP Z6 hown hgrow
        obtain ⟨aP, cP, rfl, hcy⟩ := cyo_ivs hown
        have HP := Lib.hid hcy
        refine hK.out _ _ (hHeld.grown hgrow hHeld.size (fun k e => (World.ownsRow.lt HO.out k e).1)) (fun hHeld2 => ?_)
        clear hK hHeld hown hgrow hcy HMI HO
        have hHeld := hHeld2
        clear hHeld2
        simp only [Act.put, List.setIfInBounds_toArray, List.set_cons_zero, List.set_cons_succ]
        refine take_call (i := 7) rfl (by kernel_rfl) (fun K2 hK => ?_)
        go_simp
        refine (implUse_any aP L.length cP U (D 0) ct _ HP.out.at_ (by omega)).mono ?_
        rintro e V21 ⟨rfl, hb⟩
        rw [← HA.out]
        go_wp2_with fail
        refine hK.out _ _ (hHeld.trans (hb.mono hHeld.size)) (fun hHeld2 => ?_)
        clear hK hHeld hb HP
        have hHeld := hHeld2
        clear hHeld2
        refine take_do (i := 8) (v := (.int .i64 A)) rfl (by kernel_rfl) (by kernel_rfl) (by kernel_rfl) (fun _ _ _ h => h) (by rfl) ?_ (by assumption) ?_
        · intro w hSw
          go_simp
        simp only [Act.put, List.setIfInBounds_toArray, List.set_cons_zero, List.set_cons_succ]
        refine wpAnyH_done (by kernel_rfl) ?_ _
        have HS9 := Lib.hid (HS8.out.below hHeld)
        clear hHeld HS8
        have HO : Hid ((V21.alloc (.cells #[] 33)).ownsRow V21.heap.size 33 4 (.slice (some ⟨V21.heap.size, 0, none⟩) 0 0) 0 []) := World.ownsRow_made (e := 33) (size := 4) V21 #[] 0 (Nat.le_refl _) (Nat.zero_le _) rfl
        have HMI : Hid (IsIn aN (L.length * 4) U (V21.alloc (.cells #[] 33))) := (HS9.out.rg.below (nbel_alloc _ _)).at_.in_
        obtain ⟨⟨u0, u1, u2, u3, u4, u5⟩, _⟩ := rowN6 HS9.out.x
        have hxl := HS9.out.x.lt
        go_wp2_with (at_builtin; refine BigFrame.wpList_want (by rfl) (fun K hK => wp_append_us 4 (by decide) _ _ 28 rfl 33 j0 (.agg #[.int .i64 0, .int .i64 0, .int .i64 0, .int .i64 0]) 32 Tryd.underlying28 hj0 hy0 hy1 hy2 rfl V21.heap.size _ rfl HO.out aN L.length cN U rfl HMI.out (by unfold maxLen; omega) (by omega) (by simp) ?_))
        intro v8 w8 hown hgrow
        refine hK _ _ ?_
        have hby : Below V21.heap.size V21 w8 := lnbelow_grown ((Below.refl _ _).alloc (Nat.le_refl _) _) (by simp) hgrow (fun k e => (World.ownsRow.lt HO.out k e).1)
        obtain ⟨a8, c8, rfl, hcy⟩ := cyo_ivs hown
        have HC8 := Lib.hid hcy
        have HSA := Lib.hid (HS9.out.below hby)
        clear hown hgrow HO HMI hby hcy HS9 u0 u1 u2 u3 u4 u5 hxl
        go_wp2_with fail
        refine (implUse_any a8 L.length c8 U ct d0 _ HC8.out.at_ (by omega)).mono ?_
        rintro e w9 ⟨rfl, hb⟩
        rw [← HCC.out]
        have HBB := Lib.hid (HSA.out.below hb).old
        clear hb HSA HC8
        obtain ⟨⟨k0, k1⟩, k2, k3⟩ := HAC.out
        have hq1 : IntKind.i64.wrap (A + C) = A + C := awrap_id (by omega) (by omega)
        have hq2 : IntKind.i64.wrap (sx - 1) = sx - 1 := awrap_id (by omega) (by omega)
        go_wp2_with fail
        go_ret
        exact ⟨rfl, HBB.out⟩
end Go.Proofs.YtmejmpdljckfgaaDoor
