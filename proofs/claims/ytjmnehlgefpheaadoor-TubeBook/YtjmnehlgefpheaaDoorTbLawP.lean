/-
  The law FnExactTubePush.
-/
import Derived.Test.YtjmnehlgefpheaaDoorTbLawN
namespace Go.Proofs.YtjmnehlgefpheaaDoor
open Go.RowKit Go.Deep

/-- What stands when an answer lies in a variable. -/
structure PrS (V0 : World) (R : Int) (X : Ans) (xb : Nat) (aN : Option Addr) (kN : Nat) (pN : Option Addr) (dN : Nat) (W : World) : Prop where
  bel : Below V0.heap.size V0 W
  row : W.rowIs xb 29 4 (rowN (toL R aN X.2.1.length kN pN X.2.2.length dN X.1))
  two : TwO V0.heap.size aN kN X.2.1 pN dN X.2.2 W
  lo : V0.heap.size ≤ xb
/-- What stands in the law between its calls. -/
structure Lp (s s6 h6 g7 s7 h7 s8 h8 : Nat) (A P R6 R7 R8 : Nat → Value) (n7 : Nat) (f7 : Nat → Int) (E6 E8 : World → Prop) (w W : World) : Prop where
  arg : W.rowIs s 41 2 A
  par : W.rowIs (s + 1) 42 3 P
  r6 : W.rowIs s6 29 4 R6
  t6 : E6 W
  r7 : W.rowIs s7 25 2 R7
  k7 : IsBlk 38 g7 (n7 * 3) f7 W
  r8 : W.rowIs s8 29 4 R8
  t8 : E8 W
  b6 : s + 2 ≤ s6 ∧ s6 < h6
  b7 : h6 ≤ g7 ∧ g7 < s7 ∧ s7 < h7
  b8 : h7 ≤ s8 ∧ s8 < h8
  bel : Below s w W
theorem Lp.same {s s6 h6 g7 s7 h7 s8 h8 : Nat} {A P R6 R7 R8 : Nat → Value} {n7 : Nat} {f7 : Nat → Int} {E6 E8 : World → Prop} {w W W' : World} (h : Lp s s6 h6 g7 s7 h7 s8 h8 A P R6 R7 R8 n7 f7 E6 E8 w W) (h6' : Stab (s + 2) h6 E6) (h8' : Stab h7 h8 E8) (hb : Below W.heap.size W W') : Lp s s6 h6 g7 s7 h7 s8 h8 A P R6 R7 R8 n7 f7 E6 E8 w W' :=
  ⟨nrow_below h.arg hb, nrow_below h.par hb, nrow_below h.r6 hb, h6' _ _ h.t6 (fun k _ _ hk => hb.block k hk), nrow_below h.r7 hb, h.k7.below hb, nrow_below h.r8 hb, h8' _ _ h.t8 (fun k _ _ hk => hb.block k hk), h.b6, h.b7, h.b8, h.bel.trans (hb.mono (Nat.le_of_lt h.arg.lt))⟩
theorem Lp.mark7 {s s6 h6 g7 s7 h7 s8 h8 : Nat} {A P R6 R7 R8 : Nat → Value} {n7 : Nat} {f7 f7' : Nat → Int} {E6 E8 : World → Prop} {w W W' : World} (h : Lp s s6 h6 g7 s7 h7 s8 h8 A P R6 R7 R8 n7 f7 E6 E8 w W) (h6' : Stab (s + 2) h6 E6) (h8' : Stab h7 h8 E8)
    (hk : IsBlk 38 g7 (n7 * 3) f7' W') (ho : OnlyO (some ⟨g7, 0, none⟩) W W') : Lp s s6 h6 g7 s7 h7 s8 h8 A P R6 R7 R8 n7 f7' E6 E8 w W' := by
  have o1 := h.b6; have o2 := h.b7; have o3 := h.b8
  have hb : ∀ k, k < W.heap.size → k ≠ g7 → W'.heap[k]? = W.heap[k]? := fun k hk hne => ho.block k hk (fun e => hne (by cases e; rfl))
  exact ⟨h.arg.of_block (hb _ h.arg.lt (by omega)), h.par.of_block (hb _ h.par.lt (by omega)), h.r6.of_block (hb _ h.r6.lt (by omega)), h6' _ _ h.t6 (fun k _ h1 hk => hb k hk (by omega)), h.r7.of_block (hb _ h.r7.lt (by omega)), hk, h.r8.of_block (hb _ h.r8.lt (by omega)), h8' _ _ h.t8 (fun k h1 _ hk => hb k hk (by omega)), o1, o2, o3, h.bel.trans ⟨ho.os, ho.tape, ho.output, ho.size, fun k hk => hb k (by have := h.arg.lt; omega) (by omega)⟩⟩
theorem Lp.mark8 {s s6 h6 g7 s7 h7 s8 h8 : Nat} {A P R6 R7 R8 : Nat → Value} {n7 : Nat} {f7 : Nat → Int} {E6 E8' : World → Prop} {a8 p8 : Option Addr} {n c m d : Nat} {f g : Nat → Int} {w W W' : World} (h : Lp s s6 h6 g7 s7 h7 s8 h8 A P R6 R7 R8 n7 f7 E6 (TwL h7 h8 a8 n c f p8 m d g) w W) (h6' : Stab (s + 2) h6 E6)
    (hk : E8' W') (hb0 : ∀ k, k < W.heap.size → a8 ≠ some ⟨k, 0, none⟩ → p8 ≠ some ⟨k, 0, none⟩ → W'.heap[k]? = W.heap[k]?) (hm : W'.os = W.os ∧ W'.tape = W.tape ∧ W'.output = W.output ∧ W.heap.size ≤ W'.heap.size) : Lp s s6 h6 g7 s7 h7 s8 h8 A P R6 R7 R8 n7 f7 E6 E8' w W' := by
  have o1 := h.b6; have o2 := h.b7; have o3 := h.b8
  have hb : ∀ k, k < W.heap.size → k < h7 → W'.heap[k]? = W.heap[k]? := fun k hk hl => hb0 k hk (fun e => by have := (h.t8.bx k e).1; omega) (fun e => by have := (h.t8.by_ k e).1; omega)
  exact ⟨h.arg.of_block (hb _ h.arg.lt (by omega)), h.par.of_block (hb _ h.par.lt (by omega)), h.r6.of_block (hb _ h.r6.lt (by omega)), h6' _ _ h.t6 (fun k _ h1 hk => hb k hk (by omega)), h.r7.of_block (hb _ h.r7.lt (by omega)), h.k7.block (hb _ h.k7.lt (by omega)), h.r8.of_block (hb0 _ h.r8.lt (fun e => owl_ne h.t8.x h.r8 e rfl) (fun e => owl_ne h.t8.y h.r8 e rfl)), hk, o1, o2, o3, h.bel.trans ⟨hm.1, hm.2.1, hm.2.2.1, hm.2.2.2, fun k hk => hb k (by have := h.arg.lt; omega) (by omega)⟩⟩
theorem pushX_len (r : Int) (l : List Tb.Pc) (p : Tb.Pc) : (Tb.pushX r l p).2.1.length ≤ 60 ∧ (Tb.pushX r l p).2.2.length ≤ 3660 := by
  have h := runX_len 0 r l [p]
  have e : runX 0 r l [p] = Tb.pushX r l p := by unfold runX; rw [if_neg (by simp), Tb.pushX_run]
  rwa [e] at h
set_option maxRecDepth 100000 in
set_option maxHeartbeats 8000000 in
theorem tPush_law (w : World) (r : Int) (a : Option Addr) (n k : Nat) (f : Nat → Int) (h1 : IsIn a (n * 3) f w) (hm1 : n ≤ 9223372036854775807) (p : Tb.Pc) (hg : Et w ∧ TabOk w) :
    Calls Tryd.prog 5 #[tbV r a n k, pcV p] w fun e w' => e = .returned (.bool true) ∧ Below w.heap.size w w' := by
  obtain ⟨l, rfl, hl⟩ := isIn_list h1
  have H1 := Lib.hid hl
  have HET := Lib.hid hg
  obtain ⟨X, hX⟩ : ∃ X, X = Tb.pushX r l p := ⟨_, rfl⟩
  obtain ⟨R, hR⟩ : ∃ R, R = roomOf r X := ⟨_, rfl⟩
  have HL1 : Hid (X.2.1.length ≤ 1048576) := by show _ ≤ _; rw [hX]; have := (pushX_len r l p).1; omega
  have HL2 : Hid (X.2.2.length ≤ 1048576) := by show _ ≤ _; rw [hX]; have := (pushX_len r l p).2; omega
  have SPEC : Hid (∀ (g k : Nat) (W : World), IsAt (some ⟨g, 0, none⟩) (l.length * 3) (Tb.fl l) W → Calls Tryd.prog 16 #[tbV r (some ⟨g, 0, none⟩) l.length k, pcV p] W fun e w' => (∃ a k p d, e = .returned (toV R a X.2.1.length k p X.2.2.length d X.1) ∧ TwO W.heap.size a k X.2.1 p d X.2.2 w') ∧ Below W.heap.size W w') := fun g k W h => by rw [hR, hX]; exact sPush_any r _ l k p W h
  have IMPL : Hid (∀ (g k : Nat) (W : World), IsAt (some ⟨g, 0, none⟩) (l.length * 3) (Tb.fl l) W → Et W ∧ TabOk W → Calls Tryd.prog 14 #[tbV r (some ⟨g, 0, none⟩) l.length k, pcV p] W fun e w' => (∃ a k p d, e = .returned (toV R a X.2.1.length k p X.2.2.length d X.1) ∧ TwO W.heap.size a k X.2.1 p d X.2.2 w') ∧ Below W.heap.size W w') := fun g k W h hn => by rw [hR, hX, Tb.pushX_run]; exact implPush_any r _ l k p W h hn
  have GLOB : Hid (∀ W, Below w.heap.size w W → Et W ∧ TabOk W) := fun W hb => ⟨HET.out.1.below hb, tab_below HET.out.2 hb⟩
  clear hR hX
  obtain ⟨W, hW⟩ : ∃ W, W = (w.alloc (.cells #[.int .i64 r, .slice a l.length k] 41)).alloc (.cells #[.int .i64 p.w, .int .i64 p.g, .int .i64 p.b] 42) := ⟨_, rfl⟩
  have HB : Hid (Below w.heap.size w W) := by show Below _ _ _; rw [hW]; exact (nbel_alloc _ _).alloc (by simp) _
  have HR : Hid (W.rowIs w.heap.size 41 2 (rowN [.int .i64 r, .slice a l.length k])) := by show World.rowIs _ _ _ _ _; rw [hW]; exact nrow_below (rowN_alloc w _ _) (nbel_alloc _ _)
  have HP : Hid (W.rowIs (w.heap.size + 1) 42 3 (rowN (pcL p))) := by show World.rowIs _ _ _ _ _; rw [hW]; exact rowN_alloc' (by simp) _ _
  obtain ⟨⟨a0, a1⟩, _⟩ := rowN2 HR.out
  rw [hW] at a0 a1
  have HW := Lib.hid hW
  have HM1 := Lib.hid hm1
  clear hW h1 hl hm1 hg HET
  go_enter Tryd.func5, Tryd.ntmps5
  go_wp2_with fail
  rw [← HW.out]
  clear a0 a1
  refine (szTube_any r a l.length k 1048576 _ (by omega) HM1.out).mono ?_
  rintro e w1 ⟨hz, hb1⟩
  have HB1 : Hid (Below w.heap.size w w1) := HB.out.trans (hb1.mono HB.out.size)
  have HR1 := Lib.hid (nrow_below HR.out hb1)
  have HP1 := Lib.hid (nrow_below HP.out hb1)
  clear hb1 HR HB HW HP
  rcases hz with ⟨z, rfl, hz⟩ | ⟨hn1, rfl⟩
  · go_wp2_with fail
    go_ret
    exact ⟨rfl, HB1.out⟩
  have hz : ¬ ((1048576 - l.length : Nat) : Int) < 0 := by omega
  have N1 := Lib.hid hn1
  clear hn1
  go_wp2_with fail
  go_cut [6] (fun q W => ∃ xb aN kN pN dN, q = .pointer (some ⟨xb, 0, none⟩) ∧ Hid (PrS w1 R X xb aN kN pN dN W))
  case first =>
    refine wp_region_held_drew (S := fun V => Below w1.heap.size w1 V) (by kernel_rfl) (Below.refl _ _).drew (fun hHeld => ?_)
    obtain ⟨Z, hZ⟩ : ∃ Z, Z = w1.drew := ⟨_, rfl⟩
    rw [← hZ] at hHeld ⊢
    clear hZ
    refine take_do (i := 0) (v := tbV r a l.length k) rfl (by kernel_rfl) (by kernel_rfl) (by kernel_rfl) (fun _ _ _ h => h) (by rfl) ?_ (by assumption) ?_
    · intro w hSw
      obtain ⟨⟨x0, x1⟩, _⟩ := rowN2 (nrow_below HR1.out hSw)
      go_simp
    simp only [Act.put, List.setIfInBounds_toArray, List.set_cons_zero, List.set_cons_succ]
    refine take_do (i := 2) (v := pcV p) rfl (by kernel_rfl) (by kernel_rfl) (by kernel_rfl) (fun _ _ _ h => h) (by rfl) ?_ (by assumption) ?_
    · intro w hSw
      obtain ⟨⟨x0, x1, x2⟩, _⟩ := rowN3 (nrow_below HP1.out hSw)
      go_simp
    simp only [Act.put, List.setIfInBounds_toArray, List.set_cons_zero, List.set_cons_succ]
    refine wpAnyH_ready (rs := [1, 5]) (by kernel_rfl) (by simp) (AllReadyH.cons (at_drop (i := 1) rfl) (fun K2 hK => ?_) (AllReadyH.cons (at_drop (i := 5) rfl) (fun K2 hK => ?_) (AllReadyH.nil)))
    · go_simp
      refine (toTube_any r a l.length k (Tb.fl l) _ ((H1.out.below HB1.out).below hHeld) N1.out).mono ?_
      rintro e Z1 ⟨⟨g1, rfl, _, hk⟩, hb⟩
      have HK := Lib.hid hk
      clear hk
      go_wp2_with fail
      refine hK.out _ _ (hHeld.trans (hb.mono hHeld.size)) (fun hHeld2 => ?_)
      clear hK hHeld hb
      have hHeld := hHeld2
      clear hHeld2
      refine wpAnyH_ready (rs := [3, 5]) (by kernel_rfl) (by simp) (AllReadyH.cons (at_drop (i := 3) rfl) (fun K2 hK => ?_) (AllReadyH.cons (at_drop (i := 5) rfl) (fun K2 hK => ?_) (AllReadyH.nil)))
      · go_simp
        refine (ntoParcel_any p.w p.g p.b _).mono ?_
        rintro e Z2 ⟨rfl, hb⟩
        have HK2 := Lib.hid (HK.out.below hb)
        clear HK
        have HK := HK2
        clear HK2
        go_wp2_with fail
        refine hK.out _ _ (hHeld.trans (hb.mono hHeld.size)) (fun hHeld2 => ?_)
        clear hK hHeld hb
        have hHeld := hHeld2
        clear hHeld2
        refine wpAnyH_ready (rs := [4, 5]) (by kernel_rfl) (by simp) (AllReadyH.cons (at_drop (i := 4) rfl) (fun K2 hK => ?_) (AllReadyH.cons (at_drop (i := 5) rfl) (fun K2 hK => ?_) (AllReadyH.nil)))
        · go_simp
          refine (SPEC.out g1 l.length _ HK.out.at_).mono ?_
          rintro e Z3 ⟨⟨aN, kN, pN, dN, rfl, htw⟩, hb⟩
          have HTW := Lib.hid (htw.low hHeld.size)
          clear htw
          have HK2 := Lib.hid (HK.out.below hb)
          clear HK
          have HK := HK2
          clear HK2
          go_wp2_with fail
          refine hK.out _ _ (hHeld.trans (hb.mono hHeld.size)) (fun hHeld2 => ?_)
          clear hK hHeld hb
          have hHeld := hHeld2
          clear hHeld2
          refine wpAnyH_ready (rs := [5]) (by kernel_rfl) (by simp) (AllReadyH.cons (at_drop (i := 5) rfl) (fun K2 hK => ?_) (AllReadyH.nil))
          obtain ⟨Z4, hZ4⟩ : ∃ Z4, Z4 = Z3.alloc (.cells #[.int .i64 0, .slice none 0 0, .slice none 0 0, .int .i64 0] 29) := ⟨_, rfl⟩
          have hb : Below Z3.heap.size Z3 Z4 := by rw [hZ4]; exact nbel_alloc _ _
          have HV : Hid (Z4.rowIs Z3.heap.size 29 4 (rowN (toL 0 none 0 0 none 0 0 0))) := by show World.rowIs _ _ _ _ _; rw [hZ4]; exact rowN_alloc _ _ _
          obtain ⟨xb, hxb⟩ : ∃ xb, xb = Z3.heap.size := ⟨_, rfl⟩
          rw [← hxb] at HV
          have HXL : Hid (w1.heap.size ≤ xb) := by show _ ≤ _; rw [hxb]; exact hHeld.size
          have HK2 := Lib.hid (HK.out.below hb)
          clear HK
          have HK := HK2
          clear HK2
          have HTW2 := Lib.hid (HTW.out.keep (fun k _ hk => hb.block k hk))
          clear HTW
          have HTW := HTW2
          clear HTW2
          go_simp
          rw [← hZ4, ← hxb]
          clear hZ4
          refine hK.out _ _ (hHeld.trans (hb.mono hHeld.size)) (fun hHeld2 => ?_)
          clear hK hHeld hxb hb
          have hHeld := hHeld2
          clear hHeld2
          have zr := put4 HV.out (.int .i64 R) (.slice aN X.2.1.length kN) (.slice pN X.2.2.length dN) (.int .i64 X.1)
          have zk := fun (k : Nat) (hk : k ≠ xb) => blk4 Z4 hk (.int .i64 R) (.slice aN X.2.1.length kN) (.slice pN X.2.2.length dN) (.int .i64 X.1)
          have zb := bel4 (g := xb) hHeld HXL.out (.int .i64 R) (.slice aN X.2.1.length kN) (.slice pN X.2.2.length dN) (.int .i64 X.1)
          have zt : TwO w1.heap.size aN kN X.2.1 pN dN X.2.2 _ := ⟨HTW.out.x.keep (fun k e _ => zk k (owl_ne HTW.out.x HV.out e)), HTW.out.y.keep (fun k e _ => zk k (owl_ne HTW.out.y HV.out e)), HTW.out.ne⟩
          obtain ⟨⟨o0, o1, o2, o3⟩, z0, z1, z2, z3⟩ := rowN4 HV.out
          have hol := HV.out.lt
          refine take_call (i := 6) rfl (by kernel_rfl) (fun K2 hK => ?_)
          go_simp
          clear o0 o1 o2 o3 z0 z1 z2 z3
          generalize (((Z4.setCell ⟨xb, 0, none⟩ (.int .i64 R)).setCell ⟨xb, 1, none⟩ (.slice aN X.2.1.length kN)).setCell ⟨xb, 2, none⟩ (.slice pN X.2.2.length dN)).setCell ⟨xb, 3, none⟩ (.int .i64 X.1) = Y at zr zk zb zt ⊢
          refine hK.out _ _ zb (fun hHeld2 => ?_)
          clear hK hHeld hHeld2
          refine wpAnyH_done (by kernel_rfl) ?_ _
          have HPR : Hid (PrS w1 R X xb aN kN pN dN Y) := ⟨zb, zr, zt, HXL.out⟩
          clear zr zk zb zt
          go_wp2_with fail
          go_meet
          case rel => exact ⟨xb, aN, kN, pN, dN, rfl, HPR⟩
        · obtain ⟨Z3, hZ3⟩ : ∃ Z3, Z3 = Z2.alloc (.cells #[.int .i64 0, .slice none 0 0, .slice none 0 0, .int .i64 0] 29) := ⟨_, rfl⟩
          have hb : Below Z2.heap.size Z2 Z3 := by rw [hZ3]; exact nbel_alloc _ _
          have HV : Hid (Z3.rowIs Z2.heap.size 29 4 (rowN (toL 0 none 0 0 none 0 0 0))) := by show World.rowIs _ _ _ _ _; rw [hZ3]; exact rowN_alloc _ _ _
          obtain ⟨xb, hxb⟩ : ∃ xb, xb = Z2.heap.size := ⟨_, rfl⟩
          rw [← hxb] at HV
          have HXL : Hid (w1.heap.size ≤ xb) := by show _ ≤ _; rw [hxb]; exact hHeld.size
          have HK2 := Lib.hid (HK.out.below hb)
          clear HK
          have HK := HK2
          clear HK2
          go_simp
          rw [← hZ3, ← hxb]
          clear hZ3
          refine hK.out _ _ (hHeld.trans (hb.mono hHeld.size)) (fun hHeld2 => ?_)
          clear hK hHeld hxb hb
          have hHeld := hHeld2
          clear hHeld2
          refine wpAnyH_ready (rs := [4]) (by kernel_rfl) (by simp) (AllReadyH.cons (at_drop (i := 4) rfl) (fun K2 hK => ?_) (AllReadyH.nil))
          go_simp
          refine (SPEC.out g1 l.length _ HK.out.at_).mono ?_
          rintro e Z4 ⟨⟨aN, kN, pN, dN, rfl, htw⟩, hb⟩
          have HTW := Lib.hid (htw.low hHeld.size)
          clear htw
          have HV2 := Lib.hid (nrow_below HV.out hb)
          clear HV
          have HV := HV2
          clear HV2
          have HK2 := Lib.hid (HK.out.below hb)
          clear HK
          have HK := HK2
          clear HK2
          go_wp2_with fail
          refine hK.out _ _ (hHeld.trans (hb.mono hHeld.size)) (fun hHeld2 => ?_)
          clear hK hHeld hb
          have hHeld := hHeld2
          clear hHeld2
          have zr := put4 HV.out (.int .i64 R) (.slice aN X.2.1.length kN) (.slice pN X.2.2.length dN) (.int .i64 X.1)
          have zk := fun (k : Nat) (hk : k ≠ xb) => blk4 Z4 hk (.int .i64 R) (.slice aN X.2.1.length kN) (.slice pN X.2.2.length dN) (.int .i64 X.1)
          have zb := bel4 (g := xb) hHeld HXL.out (.int .i64 R) (.slice aN X.2.1.length kN) (.slice pN X.2.2.length dN) (.int .i64 X.1)
          have zt : TwO w1.heap.size aN kN X.2.1 pN dN X.2.2 _ := ⟨HTW.out.x.keep (fun k e _ => zk k (owl_ne HTW.out.x HV.out e)), HTW.out.y.keep (fun k e _ => zk k (owl_ne HTW.out.y HV.out e)), HTW.out.ne⟩
          obtain ⟨⟨o0, o1, o2, o3⟩, z0, z1, z2, z3⟩ := rowN4 HV.out
          have hol := HV.out.lt
          refine take_call (i := 6) rfl (by kernel_rfl) (fun K2 hK => ?_)
          go_simp
          clear o0 o1 o2 o3 z0 z1 z2 z3
          generalize (((Z4.setCell ⟨xb, 0, none⟩ (.int .i64 R)).setCell ⟨xb, 1, none⟩ (.slice aN X.2.1.length kN)).setCell ⟨xb, 2, none⟩ (.slice pN X.2.2.length dN)).setCell ⟨xb, 3, none⟩ (.int .i64 X.1) = Y at zr zk zb zt ⊢
          refine hK.out _ _ zb (fun hHeld2 => ?_)
          clear hK hHeld hHeld2
          refine wpAnyH_done (by kernel_rfl) ?_ _
          have HPR : Hid (PrS w1 R X xb aN kN pN dN Y) := ⟨zb, zr, zt, HXL.out⟩
          clear zr zk zb zt
          go_wp2_with fail
          go_meet
          case rel => exact ⟨xb, aN, kN, pN, dN, rfl, HPR⟩
      · obtain ⟨Z2, hZ2⟩ : ∃ Z2, Z2 = Z1.alloc (.cells #[.int .i64 0, .slice none 0 0, .slice none 0 0, .int .i64 0] 29) := ⟨_, rfl⟩
        have hb : Below Z1.heap.size Z1 Z2 := by rw [hZ2]; exact nbel_alloc _ _
        have HV : Hid (Z2.rowIs Z1.heap.size 29 4 (rowN (toL 0 none 0 0 none 0 0 0))) := by show World.rowIs _ _ _ _ _; rw [hZ2]; exact rowN_alloc _ _ _
        obtain ⟨xb, hxb⟩ : ∃ xb, xb = Z1.heap.size := ⟨_, rfl⟩
        rw [← hxb] at HV
        have HXL : Hid (w1.heap.size ≤ xb) := by show _ ≤ _; rw [hxb]; exact hHeld.size
        have HK2 := Lib.hid (HK.out.below hb)
        clear HK
        have HK := HK2
        clear HK2
        go_simp
        rw [← hZ2, ← hxb]
        clear hZ2
        refine hK.out _ _ (hHeld.trans (hb.mono hHeld.size)) (fun hHeld2 => ?_)
        clear hK hHeld hxb hb
        have hHeld := hHeld2
        clear hHeld2
        refine wpAnyH_ready (rs := [3]) (by kernel_rfl) (by simp) (AllReadyH.cons (at_drop (i := 3) rfl) (fun K2 hK => ?_) (AllReadyH.nil))
        go_simp
        refine (ntoParcel_any p.w p.g p.b _).mono ?_
        rintro e Z3 ⟨rfl, hb⟩
        have HV2 := Lib.hid (nrow_below HV.out hb)
        clear HV
        have HV := HV2
        clear HV2
        have HK2 := Lib.hid (HK.out.below hb)
        clear HK
        have HK := HK2
        clear HK2
        go_wp2_with fail
        refine hK.out _ _ (hHeld.trans (hb.mono hHeld.size)) (fun hHeld2 => ?_)
        clear hK hHeld hb
        have hHeld := hHeld2
        clear hHeld2
        refine wpAnyH_ready (rs := [4]) (by kernel_rfl) (by simp) (AllReadyH.cons (at_drop (i := 4) rfl) (fun K2 hK => ?_) (AllReadyH.nil))
        go_simp
        refine (SPEC.out g1 l.length _ HK.out.at_).mono ?_
        rintro e Z4 ⟨⟨aN, kN, pN, dN, rfl, htw⟩, hb⟩
        have HTW := Lib.hid (htw.low hHeld.size)
        clear htw
        have HV2 := Lib.hid (nrow_below HV.out hb)
        clear HV
        have HV := HV2
        clear HV2
        have HK2 := Lib.hid (HK.out.below hb)
        clear HK
        have HK := HK2
        clear HK2
        go_wp2_with fail
        refine hK.out _ _ (hHeld.trans (hb.mono hHeld.size)) (fun hHeld2 => ?_)
        clear hK hHeld hb
        have hHeld := hHeld2
        clear hHeld2
        have zr := put4 HV.out (.int .i64 R) (.slice aN X.2.1.length kN) (.slice pN X.2.2.length dN) (.int .i64 X.1)
        have zk := fun (k : Nat) (hk : k ≠ xb) => blk4 Z4 hk (.int .i64 R) (.slice aN X.2.1.length kN) (.slice pN X.2.2.length dN) (.int .i64 X.1)
        have zb := bel4 (g := xb) hHeld HXL.out (.int .i64 R) (.slice aN X.2.1.length kN) (.slice pN X.2.2.length dN) (.int .i64 X.1)
        have zt : TwO w1.heap.size aN kN X.2.1 pN dN X.2.2 _ := ⟨HTW.out.x.keep (fun k e _ => zk k (owl_ne HTW.out.x HV.out e)), HTW.out.y.keep (fun k e _ => zk k (owl_ne HTW.out.y HV.out e)), HTW.out.ne⟩
        obtain ⟨⟨o0, o1, o2, o3⟩, z0, z1, z2, z3⟩ := rowN4 HV.out
        have hol := HV.out.lt
        refine take_call (i := 6) rfl (by kernel_rfl) (fun K2 hK => ?_)
        go_simp
        clear o0 o1 o2 o3 z0 z1 z2 z3
        generalize (((Z4.setCell ⟨xb, 0, none⟩ (.int .i64 R)).setCell ⟨xb, 1, none⟩ (.slice aN X.2.1.length kN)).setCell ⟨xb, 2, none⟩ (.slice pN X.2.2.length dN)).setCell ⟨xb, 3, none⟩ (.int .i64 X.1) = Y at zr zk zb zt ⊢
        refine hK.out _ _ zb (fun hHeld2 => ?_)
        clear hK hHeld hHeld2
        refine wpAnyH_done (by kernel_rfl) ?_ _
        have HPR : Hid (PrS w1 R X xb aN kN pN dN Y) := ⟨zb, zr, zt, HXL.out⟩
        clear zr zk zb zt
        go_wp2_with fail
        go_meet
        case rel => exact ⟨xb, aN, kN, pN, dN, rfl, HPR⟩
    · obtain ⟨Z1, hZ1⟩ : ∃ Z1, Z1 = Z.alloc (.cells #[.int .i64 0, .slice none 0 0, .slice none 0 0, .int .i64 0] 29) := ⟨_, rfl⟩
      have hb : Below Z.heap.size Z Z1 := by rw [hZ1]; exact nbel_alloc _ _
      have HV : Hid (Z1.rowIs Z.heap.size 29 4 (rowN (toL 0 none 0 0 none 0 0 0))) := by show World.rowIs _ _ _ _ _; rw [hZ1]; exact rowN_alloc _ _ _
      obtain ⟨xb, hxb⟩ : ∃ xb, xb = Z.heap.size := ⟨_, rfl⟩
      rw [← hxb] at HV
      have HXL : Hid (w1.heap.size ≤ xb) := by show _ ≤ _; rw [hxb]; exact hHeld.size
      go_simp
      rw [← hZ1, ← hxb]
      clear hZ1
      refine hK.out _ _ (hHeld.trans (hb.mono hHeld.size)) (fun hHeld2 => ?_)
      clear hK hHeld hxb hb
      have hHeld := hHeld2
      clear hHeld2
      refine wpAnyH_ready (rs := [1]) (by kernel_rfl) (by simp) (AllReadyH.cons (at_drop (i := 1) rfl) (fun K2 hK => ?_) (AllReadyH.nil))
      go_simp
      refine (toTube_any r a l.length k (Tb.fl l) _ ((H1.out.below HB1.out).below hHeld) N1.out).mono ?_
      rintro e Z2 ⟨⟨g1, rfl, _, hk⟩, hb⟩
      have HK := Lib.hid hk
      clear hk
      have HV2 := Lib.hid (nrow_below HV.out hb)
      clear HV
      have HV := HV2
      clear HV2
      go_wp2_with fail
      refine hK.out _ _ (hHeld.trans (hb.mono hHeld.size)) (fun hHeld2 => ?_)
      clear hK hHeld hb
      have hHeld := hHeld2
      clear hHeld2
      refine wpAnyH_ready (rs := [3]) (by kernel_rfl) (by simp) (AllReadyH.cons (at_drop (i := 3) rfl) (fun K2 hK => ?_) (AllReadyH.nil))
      go_simp
      refine (ntoParcel_any p.w p.g p.b _).mono ?_
      rintro e Z3 ⟨rfl, hb⟩
      have HV2 := Lib.hid (nrow_below HV.out hb)
      clear HV
      have HV := HV2
      clear HV2
      have HK2 := Lib.hid (HK.out.below hb)
      clear HK
      have HK := HK2
      clear HK2
      go_wp2_with fail
      refine hK.out _ _ (hHeld.trans (hb.mono hHeld.size)) (fun hHeld2 => ?_)
      clear hK hHeld hb
      have hHeld := hHeld2
      clear hHeld2
      refine wpAnyH_ready (rs := [4]) (by kernel_rfl) (by simp) (AllReadyH.cons (at_drop (i := 4) rfl) (fun K2 hK => ?_) (AllReadyH.nil))
      go_simp
      refine (SPEC.out g1 l.length _ HK.out.at_).mono ?_
      rintro e Z4 ⟨⟨aN, kN, pN, dN, rfl, htw⟩, hb⟩
      have HTW := Lib.hid (htw.low hHeld.size)
      clear htw
      have HV2 := Lib.hid (nrow_below HV.out hb)
      clear HV
      have HV := HV2
      clear HV2
      have HK2 := Lib.hid (HK.out.below hb)
      clear HK
      have HK := HK2
      clear HK2
      go_wp2_with fail
      refine hK.out _ _ (hHeld.trans (hb.mono hHeld.size)) (fun hHeld2 => ?_)
      clear hK hHeld hb
      have hHeld := hHeld2
      clear hHeld2
      have zr := put4 HV.out (.int .i64 R) (.slice aN X.2.1.length kN) (.slice pN X.2.2.length dN) (.int .i64 X.1)
      have zk := fun (k : Nat) (hk : k ≠ xb) => blk4 Z4 hk (.int .i64 R) (.slice aN X.2.1.length kN) (.slice pN X.2.2.length dN) (.int .i64 X.1)
      have zb := bel4 (g := xb) hHeld HXL.out (.int .i64 R) (.slice aN X.2.1.length kN) (.slice pN X.2.2.length dN) (.int .i64 X.1)
      have zt : TwO w1.heap.size aN kN X.2.1 pN dN X.2.2 _ := ⟨HTW.out.x.keep (fun k e _ => zk k (owl_ne HTW.out.x HV.out e)), HTW.out.y.keep (fun k e _ => zk k (owl_ne HTW.out.y HV.out e)), HTW.out.ne⟩
      obtain ⟨⟨o0, o1, o2, o3⟩, z0, z1, z2, z3⟩ := rowN4 HV.out
      have hol := HV.out.lt
      refine take_call (i := 6) rfl (by kernel_rfl) (fun K2 hK => ?_)
      go_simp
      clear o0 o1 o2 o3 z0 z1 z2 z3
      generalize (((Z4.setCell ⟨xb, 0, none⟩ (.int .i64 R)).setCell ⟨xb, 1, none⟩ (.slice aN X.2.1.length kN)).setCell ⟨xb, 2, none⟩ (.slice pN X.2.2.length dN)).setCell ⟨xb, 3, none⟩ (.int .i64 X.1) = Y at zr zk zb zt ⊢
      refine hK.out _ _ zb (fun hHeld2 => ?_)
      clear hK hHeld hHeld2
      refine wpAnyH_done (by kernel_rfl) ?_ _
      have HPR : Hid (PrS w1 R X xb aN kN pN dN Y) := ⟨zb, zr, zt, HXL.out⟩
      clear zr zk zb zt
      go_wp2_with fail
      go_meet
      case rel => exact ⟨xb, aN, kN, pN, dN, rfl, HPR⟩
  case rest =>
    obtain ⟨s6, a6, k6, p6, d6, rfl, hPR⟩ := hcut
    obtain ⟨W3, hW3⟩ : ∃ W3, W3 = wc := ⟨_, rfl⟩
    rw [← hW3] at hPR ⊢
    clear hW3
    obtain ⟨h6, hh6⟩ : ∃ h6, h6 = W3.heap.size := ⟨_, rfl⟩
    have HB3 : Hid (Below w.heap.size w W3) := HB1.out.trans (hPR.out.bel.mono HB1.out.size)
    have HR3 := Lib.hid (nrow_below HR1.out hPR.out.bel)
    have HP3 := Lib.hid (nrow_below HP1.out hPR.out.bel)
    have hp1 := HP1.out.lt
    have R6 := Lib.hid hPR.out.row
    have T6 : Hid (TwL (w.heap.size + 2) h6 a6 X.2.1.length k6 (Tb.fl X.2.1) p6 X.2.2.length d6 (Tb.fl X.2.2) W3) := TwL.of_two (hPR.out.two.low (by omega)) (by omega)
    have B6 : Hid (w.heap.size + 2 ≤ s6 ∧ s6 < h6) := ⟨by have := hPR.out.lo; omega, by rw [hh6]; exact R6.out.lt⟩
    have H6 : Hid (h6 = W3.heap.size) := hh6
    clear hPR hp1 hh6 HR1 HP1 HB1
    obtain ⟨⟨a0, a1⟩, _⟩ := rowN2 HR3.out
    go_wp2_with fail
    refine (toTube_any r a l.length k (Tb.fl l) _ (H1.out.below HB3.out) N1.out).mono ?_
    rintro e w4 ⟨⟨g7, rfl, hg7, hk⟩, hb⟩
    obtain ⟨W4, hW4⟩ : ∃ W4, W4 = w4.alloc (.cells #[.int .i64 r, .slice (some ⟨g7, 0, none⟩) l.length l.length] 25) := ⟨_, rfl⟩
    have hb4 : Below w4.heap.size w4 W4 := by rw [hW4]; exact nbel_alloc _ _
    obtain ⟨s7, hs7⟩ : ∃ s7, s7 = w4.heap.size := ⟨_, rfl⟩
    have R7 : Hid (W4.rowIs s7 25 2 (rowN [.int .i64 r, .slice (some ⟨g7, 0, none⟩) l.length l.length])) := by show World.rowIs _ _ _ _ _; rw [hW4, hs7]; exact rowN_alloc w4 _ _
    have K7 : Hid (IsBlk 38 g7 (l.length * 3) (Tb.fl l) W4) := hk.below hb4
    obtain ⟨h7, hh7⟩ : ∃ h7, h7 = W4.heap.size := ⟨_, rfl⟩
    have B7 : Hid (h6 ≤ g7 ∧ g7 < s7 ∧ s7 < h7) := ⟨by have := H6.out; omega, by rw [hs7]; exact hk.lt, by rw [hh7]; exact R7.out.lt⟩
    have H7 : Hid (h7 = W4.heap.size) := hh7
    have hbt := hb.trans (hb4.mono hb.size)
    have R64 := Lib.hid (nrow_below R6.out hbt)
    have T64 := Lib.hid (T6.out.same (fun k _ _ hk => hbt.block k hk))
    have HR4 := Lib.hid (nrow_below HR3.out hbt)
    have HP4 := Lib.hid (nrow_below HP3.out hbt)
    have HB4 : Hid (Below w.heap.size w W4) := HB3.out.trans (hbt.mono HB3.out.size)
    have HW4 := Lib.hid hW4
    have HS7 := Lib.hid hs7
    clear hb hb4 hbt hW4 hk a0 a1 HR3 HP3 HB3 R6 T6 hg7 hs7 hh7
    go_wp2_with fail
    rw [← HW4.out, ← HS7.out]
    clear HW4 HS7
    go_cut [8] (fun q W => ∃ xb aN kN pN dN, q = .pointer (some ⟨xb, 0, none⟩) ∧ Hid (PrS W4 R X xb aN kN pN dN W))
    case first =>
      refine wp_region_held_drew (S := fun V => Below W4.heap.size W4 V) (by kernel_rfl) (Below.refl _ _).drew (fun hHeld => ?_)
      obtain ⟨Z, hZ⟩ : ∃ Z, Z = W4.drew := ⟨_, rfl⟩
      rw [← hZ] at hHeld ⊢
      clear hZ
      refine take_do (i := 0) (v := tbV r (some ⟨g7, 0, none⟩) l.length l.length) rfl (by kernel_rfl) (by kernel_rfl) (by kernel_rfl) (fun _ _ _ h => h) (by rfl) ?_ (by assumption) ?_
      · intro w hSw
        obtain ⟨⟨x0, x1⟩, _⟩ := rowN2 (nrow_below R7.out hSw)
        go_simp
      simp only [Act.put, List.setIfInBounds_toArray, List.set_cons_zero, List.set_cons_succ]
      refine take_do (i := 1) (v := pcV p) rfl (by kernel_rfl) (by kernel_rfl) (by kernel_rfl) (fun _ _ _ h => h) (by rfl) ?_ (by assumption) ?_
      · intro w hSw
        obtain ⟨⟨x0, x1, x2⟩, _⟩ := rowN3 (nrow_below HP4.out hSw)
        go_simp
      simp only [Act.put, List.setIfInBounds_toArray, List.set_cons_zero, List.set_cons_succ]
      refine wpAnyH_ready (rs := [2, 4]) (by kernel_rfl) (by simp) (AllReadyH.cons (at_drop (i := 2) rfl) (fun K2 hK => ?_) (AllReadyH.cons (at_drop (i := 4) rfl) (fun K2 hK => ?_) (AllReadyH.nil)))
      · go_simp
        refine (ntoParcel_any p.w p.g p.b _).mono ?_
        rintro e Z1 ⟨rfl, hb⟩
        go_wp2_with fail
        refine hK.out _ _ (hHeld.trans (hb.mono hHeld.size)) (fun hHeld2 => ?_)
        clear hK hHeld hb
        have hHeld := hHeld2
        clear hHeld2
        refine wpAnyH_ready (rs := [3, 4]) (by kernel_rfl) (by simp) (AllReadyH.cons (at_drop (i := 3) rfl) (fun K2 hK => ?_) (AllReadyH.cons (at_drop (i := 4) rfl) (fun K2 hK => ?_) (AllReadyH.nil)))
        · go_simp
          refine (IMPL.out g7 l.length _ (K7.out.below hHeld).at_ (GLOB.out _ (HB4.out.trans (hHeld.mono HB4.out.size)))).mono ?_
          rintro e Z2 ⟨⟨aN, kN, pN, dN, rfl, htw⟩, hb⟩
          have HTW := Lib.hid (htw.low hHeld.size)
          clear htw
          go_wp2_with fail
          refine hK.out _ _ (hHeld.trans (hb.mono hHeld.size)) (fun hHeld2 => ?_)
          clear hK hHeld hb
          have hHeld := hHeld2
          clear hHeld2
          refine wpAnyH_ready (rs := [4]) (by kernel_rfl) (by simp) (AllReadyH.cons (at_drop (i := 4) rfl) (fun K2 hK => ?_) (AllReadyH.nil))
          obtain ⟨Z3, hZ3⟩ : ∃ Z3, Z3 = Z2.alloc (.cells #[.int .i64 0, .slice none 0 0, .slice none 0 0, .int .i64 0] 29) := ⟨_, rfl⟩
          have hb : Below Z2.heap.size Z2 Z3 := by rw [hZ3]; exact nbel_alloc _ _
          have HV : Hid (Z3.rowIs Z2.heap.size 29 4 (rowN (toL 0 none 0 0 none 0 0 0))) := by show World.rowIs _ _ _ _ _; rw [hZ3]; exact rowN_alloc _ _ _
          obtain ⟨xb, hxb⟩ : ∃ xb, xb = Z2.heap.size := ⟨_, rfl⟩
          rw [← hxb] at HV
          have HXL : Hid (W4.heap.size ≤ xb) := by show _ ≤ _; rw [hxb]; exact hHeld.size
          have HTW2 := Lib.hid (HTW.out.keep (fun k _ hk => hb.block k hk))
          clear HTW
          have HTW := HTW2
          clear HTW2
          go_simp
          rw [← hZ3, ← hxb]
          clear hZ3
          refine hK.out _ _ (hHeld.trans (hb.mono hHeld.size)) (fun hHeld2 => ?_)
          clear hK hHeld hxb hb
          have hHeld := hHeld2
          clear hHeld2
          have zr := put4 HV.out (.int .i64 R) (.slice aN X.2.1.length kN) (.slice pN X.2.2.length dN) (.int .i64 X.1)
          have zk := fun (k : Nat) (hk : k ≠ xb) => blk4 Z3 hk (.int .i64 R) (.slice aN X.2.1.length kN) (.slice pN X.2.2.length dN) (.int .i64 X.1)
          have zb := bel4 (g := xb) hHeld HXL.out (.int .i64 R) (.slice aN X.2.1.length kN) (.slice pN X.2.2.length dN) (.int .i64 X.1)
          have zt : TwO W4.heap.size aN kN X.2.1 pN dN X.2.2 _ := ⟨HTW.out.x.keep (fun k e _ => zk k (owl_ne HTW.out.x HV.out e)), HTW.out.y.keep (fun k e _ => zk k (owl_ne HTW.out.y HV.out e)), HTW.out.ne⟩
          obtain ⟨⟨o0, o1, o2, o3⟩, z0, z1, z2, z3⟩ := rowN4 HV.out
          have hol := HV.out.lt
          refine take_call (i := 5) rfl (by kernel_rfl) (fun K2 hK => ?_)
          go_simp
          clear o0 o1 o2 o3 z0 z1 z2 z3
          generalize (((Z3.setCell ⟨xb, 0, none⟩ (.int .i64 R)).setCell ⟨xb, 1, none⟩ (.slice aN X.2.1.length kN)).setCell ⟨xb, 2, none⟩ (.slice pN X.2.2.length dN)).setCell ⟨xb, 3, none⟩ (.int .i64 X.1) = Y at zr zk zb zt ⊢
          refine hK.out _ _ zb (fun hHeld2 => ?_)
          clear hK hHeld hHeld2
          refine wpAnyH_done (by kernel_rfl) ?_ _
          have HPR : Hid (PrS W4 R X xb aN kN pN dN Y) := ⟨zb, zr, zt, HXL.out⟩
          clear zr zk zb zt
          go_wp2_with fail
          go_meet
          case rel => exact ⟨xb, aN, kN, pN, dN, rfl, HPR⟩
        · obtain ⟨Z2, hZ2⟩ : ∃ Z2, Z2 = Z1.alloc (.cells #[.int .i64 0, .slice none 0 0, .slice none 0 0, .int .i64 0] 29) := ⟨_, rfl⟩
          have hb : Below Z1.heap.size Z1 Z2 := by rw [hZ2]; exact nbel_alloc _ _
          have HV : Hid (Z2.rowIs Z1.heap.size 29 4 (rowN (toL 0 none 0 0 none 0 0 0))) := by show World.rowIs _ _ _ _ _; rw [hZ2]; exact rowN_alloc _ _ _
          obtain ⟨xb, hxb⟩ : ∃ xb, xb = Z1.heap.size := ⟨_, rfl⟩
          rw [← hxb] at HV
          have HXL : Hid (W4.heap.size ≤ xb) := by show _ ≤ _; rw [hxb]; exact hHeld.size
          go_simp
          rw [← hZ2, ← hxb]
          clear hZ2
          refine hK.out _ _ (hHeld.trans (hb.mono hHeld.size)) (fun hHeld2 => ?_)
          clear hK hHeld hxb hb
          have hHeld := hHeld2
          clear hHeld2
          refine wpAnyH_ready (rs := [3]) (by kernel_rfl) (by simp) (AllReadyH.cons (at_drop (i := 3) rfl) (fun K2 hK => ?_) (AllReadyH.nil))
          go_simp
          refine (IMPL.out g7 l.length _ (K7.out.below hHeld).at_ (GLOB.out _ (HB4.out.trans (hHeld.mono HB4.out.size)))).mono ?_
          rintro e Z3 ⟨⟨aN, kN, pN, dN, rfl, htw⟩, hb⟩
          have HTW := Lib.hid (htw.low hHeld.size)
          clear htw
          have HV2 := Lib.hid (nrow_below HV.out hb)
          clear HV
          have HV := HV2
          clear HV2
          go_wp2_with fail
          refine hK.out _ _ (hHeld.trans (hb.mono hHeld.size)) (fun hHeld2 => ?_)
          clear hK hHeld hb
          have hHeld := hHeld2
          clear hHeld2
          have zr := put4 HV.out (.int .i64 R) (.slice aN X.2.1.length kN) (.slice pN X.2.2.length dN) (.int .i64 X.1)
          have zk := fun (k : Nat) (hk : k ≠ xb) => blk4 Z3 hk (.int .i64 R) (.slice aN X.2.1.length kN) (.slice pN X.2.2.length dN) (.int .i64 X.1)
          have zb := bel4 (g := xb) hHeld HXL.out (.int .i64 R) (.slice aN X.2.1.length kN) (.slice pN X.2.2.length dN) (.int .i64 X.1)
          have zt : TwO W4.heap.size aN kN X.2.1 pN dN X.2.2 _ := ⟨HTW.out.x.keep (fun k e _ => zk k (owl_ne HTW.out.x HV.out e)), HTW.out.y.keep (fun k e _ => zk k (owl_ne HTW.out.y HV.out e)), HTW.out.ne⟩
          obtain ⟨⟨o0, o1, o2, o3⟩, z0, z1, z2, z3⟩ := rowN4 HV.out
          have hol := HV.out.lt
          refine take_call (i := 5) rfl (by kernel_rfl) (fun K2 hK => ?_)
          go_simp
          clear o0 o1 o2 o3 z0 z1 z2 z3
          generalize (((Z3.setCell ⟨xb, 0, none⟩ (.int .i64 R)).setCell ⟨xb, 1, none⟩ (.slice aN X.2.1.length kN)).setCell ⟨xb, 2, none⟩ (.slice pN X.2.2.length dN)).setCell ⟨xb, 3, none⟩ (.int .i64 X.1) = Y at zr zk zb zt ⊢
          refine hK.out _ _ zb (fun hHeld2 => ?_)
          clear hK hHeld hHeld2
          refine wpAnyH_done (by kernel_rfl) ?_ _
          have HPR : Hid (PrS W4 R X xb aN kN pN dN Y) := ⟨zb, zr, zt, HXL.out⟩
          clear zr zk zb zt
          go_wp2_with fail
          go_meet
          case rel => exact ⟨xb, aN, kN, pN, dN, rfl, HPR⟩
      · obtain ⟨Z1, hZ1⟩ : ∃ Z1, Z1 = Z.alloc (.cells #[.int .i64 0, .slice none 0 0, .slice none 0 0, .int .i64 0] 29) := ⟨_, rfl⟩
        have hb : Below Z.heap.size Z Z1 := by rw [hZ1]; exact nbel_alloc _ _
        have HV : Hid (Z1.rowIs Z.heap.size 29 4 (rowN (toL 0 none 0 0 none 0 0 0))) := by show World.rowIs _ _ _ _ _; rw [hZ1]; exact rowN_alloc _ _ _
        obtain ⟨xb, hxb⟩ : ∃ xb, xb = Z.heap.size := ⟨_, rfl⟩
        rw [← hxb] at HV
        have HXL : Hid (W4.heap.size ≤ xb) := by show _ ≤ _; rw [hxb]; exact hHeld.size
        go_simp
        rw [← hZ1, ← hxb]
        clear hZ1
        refine hK.out _ _ (hHeld.trans (hb.mono hHeld.size)) (fun hHeld2 => ?_)
        clear hK hHeld hxb hb
        have hHeld := hHeld2
        clear hHeld2
        refine wpAnyH_ready (rs := [2]) (by kernel_rfl) (by simp) (AllReadyH.cons (at_drop (i := 2) rfl) (fun K2 hK => ?_) (AllReadyH.nil))
        go_simp
        refine (ntoParcel_any p.w p.g p.b _).mono ?_
        rintro e Z2 ⟨rfl, hb⟩
        have HV2 := Lib.hid (nrow_below HV.out hb)
        clear HV
        have HV := HV2
        clear HV2
        go_wp2_with fail
        refine hK.out _ _ (hHeld.trans (hb.mono hHeld.size)) (fun hHeld2 => ?_)
        clear hK hHeld hb
        have hHeld := hHeld2
        clear hHeld2
        refine wpAnyH_ready (rs := [3]) (by kernel_rfl) (by simp) (AllReadyH.cons (at_drop (i := 3) rfl) (fun K2 hK => ?_) (AllReadyH.nil))
        go_simp
        refine (IMPL.out g7 l.length _ (K7.out.below hHeld).at_ (GLOB.out _ (HB4.out.trans (hHeld.mono HB4.out.size)))).mono ?_
        rintro e Z3 ⟨⟨aN, kN, pN, dN, rfl, htw⟩, hb⟩
        have HTW := Lib.hid (htw.low hHeld.size)
        clear htw
        have HV2 := Lib.hid (nrow_below HV.out hb)
        clear HV
        have HV := HV2
        clear HV2
        go_wp2_with fail
        refine hK.out _ _ (hHeld.trans (hb.mono hHeld.size)) (fun hHeld2 => ?_)
        clear hK hHeld hb
        have hHeld := hHeld2
        clear hHeld2
        have zr := put4 HV.out (.int .i64 R) (.slice aN X.2.1.length kN) (.slice pN X.2.2.length dN) (.int .i64 X.1)
        have zk := fun (k : Nat) (hk : k ≠ xb) => blk4 Z3 hk (.int .i64 R) (.slice aN X.2.1.length kN) (.slice pN X.2.2.length dN) (.int .i64 X.1)
        have zb := bel4 (g := xb) hHeld HXL.out (.int .i64 R) (.slice aN X.2.1.length kN) (.slice pN X.2.2.length dN) (.int .i64 X.1)
        have zt : TwO W4.heap.size aN kN X.2.1 pN dN X.2.2 _ := ⟨HTW.out.x.keep (fun k e _ => zk k (owl_ne HTW.out.x HV.out e)), HTW.out.y.keep (fun k e _ => zk k (owl_ne HTW.out.y HV.out e)), HTW.out.ne⟩
        obtain ⟨⟨o0, o1, o2, o3⟩, z0, z1, z2, z3⟩ := rowN4 HV.out
        have hol := HV.out.lt
        refine take_call (i := 5) rfl (by kernel_rfl) (fun K2 hK => ?_)
        go_simp
        clear o0 o1 o2 o3 z0 z1 z2 z3
        generalize (((Z3.setCell ⟨xb, 0, none⟩ (.int .i64 R)).setCell ⟨xb, 1, none⟩ (.slice aN X.2.1.length kN)).setCell ⟨xb, 2, none⟩ (.slice pN X.2.2.length dN)).setCell ⟨xb, 3, none⟩ (.int .i64 X.1) = Y at zr zk zb zt ⊢
        refine hK.out _ _ zb (fun hHeld2 => ?_)
        clear hK hHeld hHeld2
        refine wpAnyH_done (by kernel_rfl) ?_ _
        have HPR : Hid (PrS W4 R X xb aN kN pN dN Y) := ⟨zb, zr, zt, HXL.out⟩
        clear zr zk zb zt
        go_wp2_with fail
        go_meet
        case rel => exact ⟨xb, aN, kN, pN, dN, rfl, HPR⟩
    case rest =>
      obtain ⟨s8, a8, k8, p8, d8, rfl, hPR⟩ := hcut
      obtain ⟨W5, hW5⟩ : ∃ W5, W5 = wc := ⟨_, rfl⟩
      rw [← hW5] at hPR ⊢
      clear hW5
      obtain ⟨h8, hh8⟩ : ∃ h8, h8 = W5.heap.size := ⟨_, rfl⟩
      have hbt := hPR.out.bel
      have h7e := H7.out
      have LS0 : Hid (Lp w.heap.size s6 h6 g7 s7 h7 s8 h8 (rowN [.int .i64 r, .slice a l.length k]) (rowN (pcL p)) (rowN (toL R a6 X.2.1.length k6 p6 X.2.2.length d6 X.1)) (rowN [.int .i64 r, .slice (some ⟨g7, 0, none⟩) l.length l.length]) (rowN (toL R a8 X.2.1.length k8 p8 X.2.2.length d8 X.1)) l.length (Tb.fl l) (TwL (w.heap.size + 2) h6 a6 X.2.1.length k6 (Tb.fl X.2.1) p6 X.2.2.length d6 (Tb.fl X.2.2)) (TwL h7 h8 a8 X.2.1.length k8 (Tb.fl X.2.1) p8 X.2.2.length d8 (Tb.fl X.2.2)) w W5) :=
        ⟨nrow_below HR4.out hbt, nrow_below HP4.out hbt, nrow_below R64.out hbt, T64.out.same (fun k _ _ hk => hbt.block k hk), nrow_below R7.out hbt, K7.out.below hbt, hPR.out.row, by rw [h7e]; exact TwL.of_two hPR.out.two (by omega), B6.out, B7.out, ⟨by have := hPR.out.lo; omega, by rw [hh8]; exact hPR.out.row.lt⟩, HB4.out.trans (hbt.mono HB4.out.size)⟩
      clear hbt h7e hh8 hPR HR4 HP4 R64 T64 R7 K7 HB4
      obtain ⟨⟨y0, y1, y2, y3⟩, _⟩ := rowN4 LS0.out.r8
      obtain ⟨⟨u0, u1, u2, u3⟩, _⟩ := rowN4 LS0.out.r6
      go_wp2_with fail
      clear y0 y1 y2 y3 u0 u1 u2 u3
      refine (eqTubeOut_same R a8 a6 p8 p6 X.2.1.length k8 k6 X.2.2.length d8 d6 X.1 (Tb.fl X.2.1) (Tb.fl X.2.2) _ LS0.out.t8.x.at_ LS0.out.t6.x.at_ LS0.out.t8.y.at_ LS0.out.t6.y.at_ HL1.out HL2.out).mono ?_
      rintro e w6 ⟨rfl, hb⟩
      have LS1 : Hid (Lp w.heap.size s6 h6 g7 s7 h7 s8 h8 (rowN [.int .i64 r, .slice a l.length k]) (rowN (pcL p)) (rowN (toL R a6 X.2.1.length k6 p6 X.2.2.length d6 X.1)) (rowN [.int .i64 r, .slice (some ⟨g7, 0, none⟩) l.length l.length]) (rowN (toL R a8 X.2.1.length k8 p8 X.2.2.length d8 X.1)) l.length (Tb.fl l) (TwL (w.heap.size + 2) h6 a6 X.2.1.length k6 (Tb.fl X.2.1) p6 X.2.2.length d6 (Tb.fl X.2.2)) (TwL h7 h8 a8 X.2.1.length k8 (Tb.fl X.2.1) p8 X.2.2.length d8 (Tb.fl X.2.2)) w w6) := LS0.out.same TwL.stab TwL.stab hb
      clear hb LS0
      go_wp2_with fail
      refine wp_region_held_drew (S := Lp w.heap.size s6 h6 g7 s7 h7 s8 h8 (rowN [.int .i64 r, .slice a l.length k]) (rowN (pcL p)) (rowN (toL R a6 X.2.1.length k6 p6 X.2.2.length d6 X.1)) (rowN [.int .i64 r, .slice (some ⟨g7, 0, none⟩) l.length l.length]) (rowN (toL R a8 X.2.1.length k8 p8 X.2.2.length d8 X.1)) l.length (Tb.fl l) (TwL (w.heap.size + 2) h6 a6 X.2.1.length k6 (Tb.fl X.2.1) p6 X.2.2.length d6 (Tb.fl X.2.2)) (TwL h7 h8 a8 X.2.1.length k8 (Tb.fl X.2.1) p8 X.2.2.length d8 (Tb.fl X.2.2)) w) (by kernel_rfl) (LS1.out.same TwL.stab TwL.stab (Below.refl _ _).drew) (fun hHeld => ?_)
      clear LS1
      refine take_do (i := 0) (v := tbV r (some ⟨g7, 0, none⟩) l.length l.length) rfl (by kernel_rfl) (by kernel_rfl) (by kernel_rfl) (fun _ _ _ h => h) (by rfl) ?_ (by assumption) ?_
      · intro w hSw
        obtain ⟨⟨x0, x1⟩, _⟩ := rowN2 hSw.r7
        go_simp
      simp only [Act.put, List.setIfInBounds_toArray, List.set_cons_zero, List.set_cons_succ]
      refine take_do (i := 1) (v := tbV r a l.length k) rfl (by kernel_rfl) (by kernel_rfl) (by kernel_rfl) (fun _ _ _ h => h) (by rfl) ?_ (by assumption) ?_
      · intro w hSw
        obtain ⟨⟨x0, x1⟩, _⟩ := rowN2 hSw.arg
        go_simp
      simp only [Act.put, List.setIfInBounds_toArray, List.set_cons_zero, List.set_cons_succ]
      refine take_call (i := 2) rfl (by kernel_rfl) (fun K2 hK => ?_)
      go_simp
      refine (toTube_any r a l.length k (Tb.fl l) _ (H1.out.below hHeld.bel) N1.out).mono ?_
      rintro e w7 ⟨⟨g10, rfl, _, hk9⟩, hb⟩
      have HK9 := Lib.hid hk9
      go_wp2_with fail
      refine hK.out _ _ (hHeld.same TwL.stab TwL.stab hb) (fun hHeld2 => ?_)
      clear hK hHeld hb hk9
      refine take_call (i := 3) rfl (by kernel_rfl) (fun K2 hK => ?_)
      go_simp
      refine (eqTube_same r _ _ l.length l.length l.length (Tb.fl l) _ hHeld2.k7.at_ HK9.out.at_ N1.out).mono ?_
      rintro e w8 ⟨rfl, hb⟩
      go_wp2_with fail
      refine hK.out _ _ (hHeld2.same TwL.stab TwL.stab hb) (fun hHeld => ?_)
      clear hK hHeld2 hb
      refine take_do (i := 4) (v := .bool false) rfl (by kernel_rfl) (by kernel_rfl) (by kernel_rfl) (fun _ _ _ h => h) (by rfl) ?_ (by assumption) ?_
      · intro w hSw
        go_simp
      simp only [Act.put, List.setIfInBounds_toArray, List.set_cons_zero, List.set_cons_succ]
      refine wpAnyH_done (by kernel_rfl) ?_ _
      have LS2 : Hid (Lp w.heap.size s6 h6 g7 s7 h7 s8 h8 (rowN [.int .i64 r, .slice a l.length k]) (rowN (pcL p)) (rowN (toL R a6 X.2.1.length k6 p6 X.2.2.length d6 X.1)) (rowN [.int .i64 r, .slice (some ⟨g7, 0, none⟩) l.length l.length]) (rowN (toL R a8 X.2.1.length k8 p8 X.2.2.length d8 X.1)) l.length (Tb.fl l) (TwL (w.heap.size + 2) h6 a6 X.2.1.length k6 (Tb.fl X.2.1) p6 X.2.2.length d6 (Tb.fl X.2.2)) (TwL h7 h8 a8 X.2.1.length k8 (Tb.fl X.2.1) p8 X.2.2.length d8 (Tb.fl X.2.2)) w w8) := hHeld
      clear hHeld HK9
      obtain ⟨⟨x0, x1⟩, _⟩ := rowN2 LS2.out.r7
      go_wp2_with fail
      refine (markTube_any 0 r (some ⟨g7, 0, none⟩) l.length l.length 1 (Tb.fl l) _ (Or.inr ⟨g7, rfl, Nat.zero_le _, LS2.out.k7⟩) N1.out (by omega)).mono ?_
      rintro e w9 ⟨rfl, hk, ho⟩
      have hk' : IsBlk 38 g7 (l.length * 3) (mk1 1) w9 := by
        rcases hk with h | ⟨g, e, _, h⟩
        · cases h.1
        · cases e; exact h
      have LS3 : Hid (Lp w.heap.size s6 h6 g7 s7 h7 s8 h8 (rowN [.int .i64 r, .slice a l.length k]) (rowN (pcL p)) (rowN (toL R a6 X.2.1.length k6 p6 X.2.2.length d6 X.1)) (rowN [.int .i64 r, .slice (some ⟨g7, 0, none⟩) l.length l.length]) (rowN (toL R a8 X.2.1.length k8 p8 X.2.2.length d8 X.1)) l.length (mk1 1) (TwL (w.heap.size + 2) h6 a6 X.2.1.length k6 (Tb.fl X.2.1) p6 X.2.2.length d6 (Tb.fl X.2.2)) (TwL h7 h8 a8 X.2.1.length k8 (Tb.fl X.2.1) p8 X.2.2.length d8 (Tb.fl X.2.2)) w w9) := LS2.out.mark7 TwL.stab TwL.stab hk' ho
      obtain ⟨Z2, hZ2⟩ : ∃ Z : Nat, Z = 1 + l.length * 3 := ⟨_, rfl⟩
      rw [← hZ2]
      have hZ0 : ¬ (Z2 : Int) < 0 := by omega
      clear hk hk' ho hZ2 x0 x1 LS2
      obtain ⟨⟨y0, y1, y2, y3⟩, _⟩ := rowN4 LS3.out.r8
      obtain ⟨⟨u0, u1, u2, u3⟩, _⟩ := rowN4 LS3.out.r6
      go_wp2_with fail
      refine (eqTubeOut_same R a8 a6 p8 p6 X.2.1.length k8 k6 X.2.2.length d8 d6 X.1 (Tb.fl X.2.1) (Tb.fl X.2.2) _ LS3.out.t8.x.at_ LS3.out.t6.x.at_ LS3.out.t8.y.at_ LS3.out.t6.y.at_ HL1.out HL2.out).mono ?_
      rintro e w10 ⟨rfl, hb⟩
      have LS4 : Hid (Lp w.heap.size s6 h6 g7 s7 h7 s8 h8 (rowN [.int .i64 r, .slice a l.length k]) (rowN (pcL p)) (rowN (toL R a6 X.2.1.length k6 p6 X.2.2.length d6 X.1)) (rowN [.int .i64 r, .slice (some ⟨g7, 0, none⟩) l.length l.length]) (rowN (toL R a8 X.2.1.length k8 p8 X.2.2.length d8 X.1)) l.length (mk1 1) (TwL (w.heap.size + 2) h6 a6 X.2.1.length k6 (Tb.fl X.2.1) p6 X.2.2.length d6 (Tb.fl X.2.2)) (TwL h7 h8 a8 X.2.1.length k8 (Tb.fl X.2.1) p8 X.2.2.length d8 (Tb.fl X.2.2)) w w10) := LS3.out.same TwL.stab TwL.stab hb
      clear hb LS3 y0 y1 y2 y3 u0 u1 u2 u3
      obtain ⟨⟨y0, y1, y2, y3⟩, _⟩ := rowN4 LS4.out.r8
      go_wp2_with fail
      refine (markTubeOut_any h7 h8 R a8 X.2.1.length k8 (Tb.fl X.2.1) p8 X.2.2.length d8 (Tb.fl X.2.2) X.1 _ LS4.out.t8 HL1.out HL2.out).mono ?_
      rintro e w11 ⟨rfl, hk, ho, hm⟩
      have LS5 : Hid (Lp w.heap.size s6 h6 g7 s7 h7 s8 h8 (rowN [.int .i64 r, .slice a l.length k]) (rowN (pcL p)) (rowN (toL R a6 X.2.1.length k6 p6 X.2.2.length d6 X.1)) (rowN [.int .i64 r, .slice (some ⟨g7, 0, none⟩) l.length l.length]) (rowN (toL R a8 X.2.1.length k8 p8 X.2.2.length d8 X.1)) l.length (mk1 1) (TwL (w.heap.size + 2) h6 a6 X.2.1.length k6 (Tb.fl X.2.1) p6 X.2.2.length d6 (Tb.fl X.2.2)) (TwL h7 h8 a8 X.2.1.length k8 (mk1 1) p8 X.2.2.length d8 (mk1 (1 + X.2.1.length * 3))) w w11) := LS4.out.mark8 TwL.stab hk ho hm
      obtain ⟨M, hM⟩ : ∃ M : Nat, M = 1 + X.2.1.length * 3 + X.2.2.length * 3 := ⟨_, rfl⟩
      rw [← hM]
      have HM := Lib.hid hM
      clear hk ho hm hM y0 y1 y2 y3 LS4
      obtain ⟨⟨y0, y1, y2, y3⟩, _⟩ := rowN4 LS5.out.r8
      go_wp2_with fail
      refine (heldTubeOut_any h7 h8 R a8 X.2.1.length k8 p8 X.2.2.length d8 X.1 _ LS5.out.t8 HL1.out HL2.out).mono ?_
      rintro e w12 ⟨rfl, hb⟩
      rw [← HM.out]
      have LS6 : Hid (Lp w.heap.size s6 h6 g7 s7 h7 s8 h8 (rowN [.int .i64 r, .slice a l.length k]) (rowN (pcL p)) (rowN (toL R a6 X.2.1.length k6 p6 X.2.2.length d6 X.1)) (rowN [.int .i64 r, .slice (some ⟨g7, 0, none⟩) l.length l.length]) (rowN (toL R a8 X.2.1.length k8 p8 X.2.2.length d8 X.1)) l.length (mk1 1) (TwL (w.heap.size + 2) h6 a6 X.2.1.length k6 (Tb.fl X.2.1) p6 X.2.2.length d6 (Tb.fl X.2.2)) (TwL h7 h8 a8 X.2.1.length k8 (mk1 1) p8 X.2.2.length d8 (mk1 (1 + X.2.1.length * 3))) w w12) := LS5.out.same TwL.stab TwL.stab hb
      have hM0 : ¬ (M : Int) < 0 := by omega
      have hMM : ((M : Int) != (M : Int)) = false := by simp
      have HB12 := Lib.hid LS6.out.bel
      have HR12 := Lib.hid LS6.out.arg
      have HP12 := Lib.hid LS6.out.par
      clear hb LS5 y0 y1 y2 y3
      go_wp2_with fail
      go_cut [12] (fun q W => ∃ xb aN kN pN dN, q = .pointer (some ⟨xb, 0, none⟩) ∧ Hid (PrS w12 R X xb aN kN pN dN W))
      case first =>
        refine wp_region_held_drew (S := fun V => Below w12.heap.size w12 V) (by kernel_rfl) (Below.refl _ _).drew (fun hHeld => ?_)
        obtain ⟨Z, hZ⟩ : ∃ Z, Z = w12.drew := ⟨_, rfl⟩
        rw [← hZ] at hHeld ⊢
        clear hZ
        refine take_do (i := 0) (v := tbV r a l.length k) rfl (by kernel_rfl) (by kernel_rfl) (by kernel_rfl) (fun _ _ _ h => h) (by rfl) ?_ (by assumption) ?_
        · intro w hSw
          obtain ⟨⟨x0, x1⟩, _⟩ := rowN2 (nrow_below HR12.out hSw)
          go_simp
        simp only [Act.put, List.setIfInBounds_toArray, List.set_cons_zero, List.set_cons_succ]
        refine take_do (i := 2) (v := pcV p) rfl (by kernel_rfl) (by kernel_rfl) (by kernel_rfl) (fun _ _ _ h => h) (by rfl) ?_ (by assumption) ?_
        · intro w hSw
          obtain ⟨⟨x0, x1, x2⟩, _⟩ := rowN3 (nrow_below HP12.out hSw)
          go_simp
        simp only [Act.put, List.setIfInBounds_toArray, List.set_cons_zero, List.set_cons_succ]
        refine wpAnyH_ready (rs := [1, 5]) (by kernel_rfl) (by simp) (AllReadyH.cons (at_drop (i := 1) rfl) (fun K2 hK => ?_) (AllReadyH.cons (at_drop (i := 5) rfl) (fun K2 hK => ?_) (AllReadyH.nil)))
        · go_simp
          refine (toTube_any r a l.length k (Tb.fl l) _ ((H1.out.below HB12.out).below hHeld) N1.out).mono ?_
          rintro e Z1 ⟨⟨g1, rfl, _, hk⟩, hb⟩
          have HK := Lib.hid hk
          clear hk
          go_wp2_with fail
          refine hK.out _ _ (hHeld.trans (hb.mono hHeld.size)) (fun hHeld2 => ?_)
          clear hK hHeld hb
          have hHeld := hHeld2
          clear hHeld2
          refine wpAnyH_ready (rs := [3, 5]) (by kernel_rfl) (by simp) (AllReadyH.cons (at_drop (i := 3) rfl) (fun K2 hK => ?_) (AllReadyH.cons (at_drop (i := 5) rfl) (fun K2 hK => ?_) (AllReadyH.nil)))
          · go_simp
            refine (ntoParcel_any p.w p.g p.b _).mono ?_
            rintro e Z2 ⟨rfl, hb⟩
            have HK2 := Lib.hid (HK.out.below hb)
            clear HK
            have HK := HK2
            clear HK2
            go_wp2_with fail
            refine hK.out _ _ (hHeld.trans (hb.mono hHeld.size)) (fun hHeld2 => ?_)
            clear hK hHeld hb
            have hHeld := hHeld2
            clear hHeld2
            refine wpAnyH_ready (rs := [4, 5]) (by kernel_rfl) (by simp) (AllReadyH.cons (at_drop (i := 4) rfl) (fun K2 hK => ?_) (AllReadyH.cons (at_drop (i := 5) rfl) (fun K2 hK => ?_) (AllReadyH.nil)))
            · go_simp
              refine (IMPL.out g1 l.length _ HK.out.at_ (GLOB.out _ (HB12.out.trans (hHeld.mono HB12.out.size)))).mono ?_
              rintro e Z3 ⟨⟨aN, kN, pN, dN, rfl, htw⟩, hb⟩
              have HTW := Lib.hid (htw.low hHeld.size)
              clear htw
              have HK2 := Lib.hid (HK.out.below hb)
              clear HK
              have HK := HK2
              clear HK2
              go_wp2_with fail
              refine hK.out _ _ (hHeld.trans (hb.mono hHeld.size)) (fun hHeld2 => ?_)
              clear hK hHeld hb
              have hHeld := hHeld2
              clear hHeld2
              refine wpAnyH_ready (rs := [5]) (by kernel_rfl) (by simp) (AllReadyH.cons (at_drop (i := 5) rfl) (fun K2 hK => ?_) (AllReadyH.nil))
              obtain ⟨Z4, hZ4⟩ : ∃ Z4, Z4 = Z3.alloc (.cells #[.int .i64 0, .slice none 0 0, .slice none 0 0, .int .i64 0] 29) := ⟨_, rfl⟩
              have hb : Below Z3.heap.size Z3 Z4 := by rw [hZ4]; exact nbel_alloc _ _
              have HV : Hid (Z4.rowIs Z3.heap.size 29 4 (rowN (toL 0 none 0 0 none 0 0 0))) := by show World.rowIs _ _ _ _ _; rw [hZ4]; exact rowN_alloc _ _ _
              obtain ⟨xb, hxb⟩ : ∃ xb, xb = Z3.heap.size := ⟨_, rfl⟩
              rw [← hxb] at HV
              have HXL : Hid (w12.heap.size ≤ xb) := by show _ ≤ _; rw [hxb]; exact hHeld.size
              have HK2 := Lib.hid (HK.out.below hb)
              clear HK
              have HK := HK2
              clear HK2
              have HTW2 := Lib.hid (HTW.out.keep (fun k _ hk => hb.block k hk))
              clear HTW
              have HTW := HTW2
              clear HTW2
              go_simp
              rw [← hZ4, ← hxb]
              clear hZ4
              refine hK.out _ _ (hHeld.trans (hb.mono hHeld.size)) (fun hHeld2 => ?_)
              clear hK hHeld hxb hb
              have hHeld := hHeld2
              clear hHeld2
              have zr := put4 HV.out (.int .i64 R) (.slice aN X.2.1.length kN) (.slice pN X.2.2.length dN) (.int .i64 X.1)
              have zk := fun (k : Nat) (hk : k ≠ xb) => blk4 Z4 hk (.int .i64 R) (.slice aN X.2.1.length kN) (.slice pN X.2.2.length dN) (.int .i64 X.1)
              have zb := bel4 (g := xb) hHeld HXL.out (.int .i64 R) (.slice aN X.2.1.length kN) (.slice pN X.2.2.length dN) (.int .i64 X.1)
              have zt : TwO w12.heap.size aN kN X.2.1 pN dN X.2.2 _ := ⟨HTW.out.x.keep (fun k e _ => zk k (owl_ne HTW.out.x HV.out e)), HTW.out.y.keep (fun k e _ => zk k (owl_ne HTW.out.y HV.out e)), HTW.out.ne⟩
              obtain ⟨⟨o0, o1, o2, o3⟩, z0, z1, z2, z3⟩ := rowN4 HV.out
              have hol := HV.out.lt
              refine take_call (i := 6) rfl (by kernel_rfl) (fun K2 hK => ?_)
              go_simp
              clear o0 o1 o2 o3 z0 z1 z2 z3
              generalize (((Z4.setCell ⟨xb, 0, none⟩ (.int .i64 R)).setCell ⟨xb, 1, none⟩ (.slice aN X.2.1.length kN)).setCell ⟨xb, 2, none⟩ (.slice pN X.2.2.length dN)).setCell ⟨xb, 3, none⟩ (.int .i64 X.1) = Y at zr zk zb zt ⊢
              refine hK.out _ _ zb (fun hHeld2 => ?_)
              clear hK hHeld hHeld2
              refine wpAnyH_done (by kernel_rfl) ?_ _
              have HPR : Hid (PrS w12 R X xb aN kN pN dN Y) := ⟨zb, zr, zt, HXL.out⟩
              clear zr zk zb zt
              go_wp2_with fail
              go_meet
              case rel => exact ⟨xb, aN, kN, pN, dN, rfl, HPR⟩
            · obtain ⟨Z3, hZ3⟩ : ∃ Z3, Z3 = Z2.alloc (.cells #[.int .i64 0, .slice none 0 0, .slice none 0 0, .int .i64 0] 29) := ⟨_, rfl⟩
              have hb : Below Z2.heap.size Z2 Z3 := by rw [hZ3]; exact nbel_alloc _ _
              have HV : Hid (Z3.rowIs Z2.heap.size 29 4 (rowN (toL 0 none 0 0 none 0 0 0))) := by show World.rowIs _ _ _ _ _; rw [hZ3]; exact rowN_alloc _ _ _
              obtain ⟨xb, hxb⟩ : ∃ xb, xb = Z2.heap.size := ⟨_, rfl⟩
              rw [← hxb] at HV
              have HXL : Hid (w12.heap.size ≤ xb) := by show _ ≤ _; rw [hxb]; exact hHeld.size
              have HK2 := Lib.hid (HK.out.below hb)
              clear HK
              have HK := HK2
              clear HK2
              go_simp
              rw [← hZ3, ← hxb]
              clear hZ3
              refine hK.out _ _ (hHeld.trans (hb.mono hHeld.size)) (fun hHeld2 => ?_)
              clear hK hHeld hxb hb
              have hHeld := hHeld2
              clear hHeld2
              refine wpAnyH_ready (rs := [4]) (by kernel_rfl) (by simp) (AllReadyH.cons (at_drop (i := 4) rfl) (fun K2 hK => ?_) (AllReadyH.nil))
              go_simp
              refine (IMPL.out g1 l.length _ HK.out.at_ (GLOB.out _ (HB12.out.trans (hHeld.mono HB12.out.size)))).mono ?_
              rintro e Z4 ⟨⟨aN, kN, pN, dN, rfl, htw⟩, hb⟩
              have HTW := Lib.hid (htw.low hHeld.size)
              clear htw
              have HV2 := Lib.hid (nrow_below HV.out hb)
              clear HV
              have HV := HV2
              clear HV2
              have HK2 := Lib.hid (HK.out.below hb)
              clear HK
              have HK := HK2
              clear HK2
              go_wp2_with fail
              refine hK.out _ _ (hHeld.trans (hb.mono hHeld.size)) (fun hHeld2 => ?_)
              clear hK hHeld hb
              have hHeld := hHeld2
              clear hHeld2
              have zr := put4 HV.out (.int .i64 R) (.slice aN X.2.1.length kN) (.slice pN X.2.2.length dN) (.int .i64 X.1)
              have zk := fun (k : Nat) (hk : k ≠ xb) => blk4 Z4 hk (.int .i64 R) (.slice aN X.2.1.length kN) (.slice pN X.2.2.length dN) (.int .i64 X.1)
              have zb := bel4 (g := xb) hHeld HXL.out (.int .i64 R) (.slice aN X.2.1.length kN) (.slice pN X.2.2.length dN) (.int .i64 X.1)
              have zt : TwO w12.heap.size aN kN X.2.1 pN dN X.2.2 _ := ⟨HTW.out.x.keep (fun k e _ => zk k (owl_ne HTW.out.x HV.out e)), HTW.out.y.keep (fun k e _ => zk k (owl_ne HTW.out.y HV.out e)), HTW.out.ne⟩
              obtain ⟨⟨o0, o1, o2, o3⟩, z0, z1, z2, z3⟩ := rowN4 HV.out
              have hol := HV.out.lt
              refine take_call (i := 6) rfl (by kernel_rfl) (fun K2 hK => ?_)
              go_simp
              clear o0 o1 o2 o3 z0 z1 z2 z3
              generalize (((Z4.setCell ⟨xb, 0, none⟩ (.int .i64 R)).setCell ⟨xb, 1, none⟩ (.slice aN X.2.1.length kN)).setCell ⟨xb, 2, none⟩ (.slice pN X.2.2.length dN)).setCell ⟨xb, 3, none⟩ (.int .i64 X.1) = Y at zr zk zb zt ⊢
              refine hK.out _ _ zb (fun hHeld2 => ?_)
              clear hK hHeld hHeld2
              refine wpAnyH_done (by kernel_rfl) ?_ _
              have HPR : Hid (PrS w12 R X xb aN kN pN dN Y) := ⟨zb, zr, zt, HXL.out⟩
              clear zr zk zb zt
              go_wp2_with fail
              go_meet
              case rel => exact ⟨xb, aN, kN, pN, dN, rfl, HPR⟩
          · obtain ⟨Z2, hZ2⟩ : ∃ Z2, Z2 = Z1.alloc (.cells #[.int .i64 0, .slice none 0 0, .slice none 0 0, .int .i64 0] 29) := ⟨_, rfl⟩
            have hb : Below Z1.heap.size Z1 Z2 := by rw [hZ2]; exact nbel_alloc _ _
            have HV : Hid (Z2.rowIs Z1.heap.size 29 4 (rowN (toL 0 none 0 0 none 0 0 0))) := by show World.rowIs _ _ _ _ _; rw [hZ2]; exact rowN_alloc _ _ _
            obtain ⟨xb, hxb⟩ : ∃ xb, xb = Z1.heap.size := ⟨_, rfl⟩
            rw [← hxb] at HV
            have HXL : Hid (w12.heap.size ≤ xb) := by show _ ≤ _; rw [hxb]; exact hHeld.size
            have HK2 := Lib.hid (HK.out.below hb)
            clear HK
            have HK := HK2
            clear HK2
            go_simp
            rw [← hZ2, ← hxb]
            clear hZ2
            refine hK.out _ _ (hHeld.trans (hb.mono hHeld.size)) (fun hHeld2 => ?_)
            clear hK hHeld hxb hb
            have hHeld := hHeld2
            clear hHeld2
            refine wpAnyH_ready (rs := [3]) (by kernel_rfl) (by simp) (AllReadyH.cons (at_drop (i := 3) rfl) (fun K2 hK => ?_) (AllReadyH.nil))
            go_simp
            refine (ntoParcel_any p.w p.g p.b _).mono ?_
            rintro e Z3 ⟨rfl, hb⟩
            have HV2 := Lib.hid (nrow_below HV.out hb)
            clear HV
            have HV := HV2
            clear HV2
            have HK2 := Lib.hid (HK.out.below hb)
            clear HK
            have HK := HK2
            clear HK2
            go_wp2_with fail
            refine hK.out _ _ (hHeld.trans (hb.mono hHeld.size)) (fun hHeld2 => ?_)
            clear hK hHeld hb
            have hHeld := hHeld2
            clear hHeld2
            refine wpAnyH_ready (rs := [4]) (by kernel_rfl) (by simp) (AllReadyH.cons (at_drop (i := 4) rfl) (fun K2 hK => ?_) (AllReadyH.nil))
            go_simp
            refine (IMPL.out g1 l.length _ HK.out.at_ (GLOB.out _ (HB12.out.trans (hHeld.mono HB12.out.size)))).mono ?_
            rintro e Z4 ⟨⟨aN, kN, pN, dN, rfl, htw⟩, hb⟩
            have HTW := Lib.hid (htw.low hHeld.size)
            clear htw
            have HV2 := Lib.hid (nrow_below HV.out hb)
            clear HV
            have HV := HV2
            clear HV2
            have HK2 := Lib.hid (HK.out.below hb)
            clear HK
            have HK := HK2
            clear HK2
            go_wp2_with fail
            refine hK.out _ _ (hHeld.trans (hb.mono hHeld.size)) (fun hHeld2 => ?_)
            clear hK hHeld hb
            have hHeld := hHeld2
            clear hHeld2
            have zr := put4 HV.out (.int .i64 R) (.slice aN X.2.1.length kN) (.slice pN X.2.2.length dN) (.int .i64 X.1)
            have zk := fun (k : Nat) (hk : k ≠ xb) => blk4 Z4 hk (.int .i64 R) (.slice aN X.2.1.length kN) (.slice pN X.2.2.length dN) (.int .i64 X.1)
            have zb := bel4 (g := xb) hHeld HXL.out (.int .i64 R) (.slice aN X.2.1.length kN) (.slice pN X.2.2.length dN) (.int .i64 X.1)
            have zt : TwO w12.heap.size aN kN X.2.1 pN dN X.2.2 _ := ⟨HTW.out.x.keep (fun k e _ => zk k (owl_ne HTW.out.x HV.out e)), HTW.out.y.keep (fun k e _ => zk k (owl_ne HTW.out.y HV.out e)), HTW.out.ne⟩
            obtain ⟨⟨o0, o1, o2, o3⟩, z0, z1, z2, z3⟩ := rowN4 HV.out
            have hol := HV.out.lt
            refine take_call (i := 6) rfl (by kernel_rfl) (fun K2 hK => ?_)
            go_simp
            clear o0 o1 o2 o3 z0 z1 z2 z3
            generalize (((Z4.setCell ⟨xb, 0, none⟩ (.int .i64 R)).setCell ⟨xb, 1, none⟩ (.slice aN X.2.1.length kN)).setCell ⟨xb, 2, none⟩ (.slice pN X.2.2.length dN)).setCell ⟨xb, 3, none⟩ (.int .i64 X.1) = Y at zr zk zb zt ⊢
            refine hK.out _ _ zb (fun hHeld2 => ?_)
            clear hK hHeld hHeld2
            refine wpAnyH_done (by kernel_rfl) ?_ _
            have HPR : Hid (PrS w12 R X xb aN kN pN dN Y) := ⟨zb, zr, zt, HXL.out⟩
            clear zr zk zb zt
            go_wp2_with fail
            go_meet
            case rel => exact ⟨xb, aN, kN, pN, dN, rfl, HPR⟩
        · obtain ⟨Z1, hZ1⟩ : ∃ Z1, Z1 = Z.alloc (.cells #[.int .i64 0, .slice none 0 0, .slice none 0 0, .int .i64 0] 29) := ⟨_, rfl⟩
          have hb : Below Z.heap.size Z Z1 := by rw [hZ1]; exact nbel_alloc _ _
          have HV : Hid (Z1.rowIs Z.heap.size 29 4 (rowN (toL 0 none 0 0 none 0 0 0))) := by show World.rowIs _ _ _ _ _; rw [hZ1]; exact rowN_alloc _ _ _
          obtain ⟨xb, hxb⟩ : ∃ xb, xb = Z.heap.size := ⟨_, rfl⟩
          rw [← hxb] at HV
          have HXL : Hid (w12.heap.size ≤ xb) := by show _ ≤ _; rw [hxb]; exact hHeld.size
          go_simp
          rw [← hZ1, ← hxb]
          clear hZ1
          refine hK.out _ _ (hHeld.trans (hb.mono hHeld.size)) (fun hHeld2 => ?_)
          clear hK hHeld hxb hb
          have hHeld := hHeld2
          clear hHeld2
          refine wpAnyH_ready (rs := [1]) (by kernel_rfl) (by simp) (AllReadyH.cons (at_drop (i := 1) rfl) (fun K2 hK => ?_) (AllReadyH.nil))
          go_simp
          refine (toTube_any r a l.length k (Tb.fl l) _ ((H1.out.below HB12.out).below hHeld) N1.out).mono ?_
          rintro e Z2 ⟨⟨g1, rfl, _, hk⟩, hb⟩
          have HK := Lib.hid hk
          clear hk
          have HV2 := Lib.hid (nrow_below HV.out hb)
          clear HV
          have HV := HV2
          clear HV2
          go_wp2_with fail
          refine hK.out _ _ (hHeld.trans (hb.mono hHeld.size)) (fun hHeld2 => ?_)
          clear hK hHeld hb
          have hHeld := hHeld2
          clear hHeld2
          refine wpAnyH_ready (rs := [3]) (by kernel_rfl) (by simp) (AllReadyH.cons (at_drop (i := 3) rfl) (fun K2 hK => ?_) (AllReadyH.nil))
          go_simp
          refine (ntoParcel_any p.w p.g p.b _).mono ?_
          rintro e Z3 ⟨rfl, hb⟩
          have HV2 := Lib.hid (nrow_below HV.out hb)
          clear HV
          have HV := HV2
          clear HV2
          have HK2 := Lib.hid (HK.out.below hb)
          clear HK
          have HK := HK2
          clear HK2
          go_wp2_with fail
          refine hK.out _ _ (hHeld.trans (hb.mono hHeld.size)) (fun hHeld2 => ?_)
          clear hK hHeld hb
          have hHeld := hHeld2
          clear hHeld2
          refine wpAnyH_ready (rs := [4]) (by kernel_rfl) (by simp) (AllReadyH.cons (at_drop (i := 4) rfl) (fun K2 hK => ?_) (AllReadyH.nil))
          go_simp
          refine (IMPL.out g1 l.length _ HK.out.at_ (GLOB.out _ (HB12.out.trans (hHeld.mono HB12.out.size)))).mono ?_
          rintro e Z4 ⟨⟨aN, kN, pN, dN, rfl, htw⟩, hb⟩
          have HTW := Lib.hid (htw.low hHeld.size)
          clear htw
          have HV2 := Lib.hid (nrow_below HV.out hb)
          clear HV
          have HV := HV2
          clear HV2
          have HK2 := Lib.hid (HK.out.below hb)
          clear HK
          have HK := HK2
          clear HK2
          go_wp2_with fail
          refine hK.out _ _ (hHeld.trans (hb.mono hHeld.size)) (fun hHeld2 => ?_)
          clear hK hHeld hb
          have hHeld := hHeld2
          clear hHeld2
          have zr := put4 HV.out (.int .i64 R) (.slice aN X.2.1.length kN) (.slice pN X.2.2.length dN) (.int .i64 X.1)
          have zk := fun (k : Nat) (hk : k ≠ xb) => blk4 Z4 hk (.int .i64 R) (.slice aN X.2.1.length kN) (.slice pN X.2.2.length dN) (.int .i64 X.1)
          have zb := bel4 (g := xb) hHeld HXL.out (.int .i64 R) (.slice aN X.2.1.length kN) (.slice pN X.2.2.length dN) (.int .i64 X.1)
          have zt : TwO w12.heap.size aN kN X.2.1 pN dN X.2.2 _ := ⟨HTW.out.x.keep (fun k e _ => zk k (owl_ne HTW.out.x HV.out e)), HTW.out.y.keep (fun k e _ => zk k (owl_ne HTW.out.y HV.out e)), HTW.out.ne⟩
          obtain ⟨⟨o0, o1, o2, o3⟩, z0, z1, z2, z3⟩ := rowN4 HV.out
          have hol := HV.out.lt
          refine take_call (i := 6) rfl (by kernel_rfl) (fun K2 hK => ?_)
          go_simp
          clear o0 o1 o2 o3 z0 z1 z2 z3
          generalize (((Z4.setCell ⟨xb, 0, none⟩ (.int .i64 R)).setCell ⟨xb, 1, none⟩ (.slice aN X.2.1.length kN)).setCell ⟨xb, 2, none⟩ (.slice pN X.2.2.length dN)).setCell ⟨xb, 3, none⟩ (.int .i64 X.1) = Y at zr zk zb zt ⊢
          refine hK.out _ _ zb (fun hHeld2 => ?_)
          clear hK hHeld hHeld2
          refine wpAnyH_done (by kernel_rfl) ?_ _
          have HPR : Hid (PrS w12 R X xb aN kN pN dN Y) := ⟨zb, zr, zt, HXL.out⟩
          clear zr zk zb zt
          go_wp2_with fail
          go_meet
          case rel => exact ⟨xb, aN, kN, pN, dN, rfl, HPR⟩
      case rest =>
        obtain ⟨s12, a12, k12, p12, d12, rfl, hPR⟩ := hcut
        obtain ⟨W14, hW14⟩ : ∃ W14, W14 = wc := ⟨_, rfl⟩
        rw [← hW14] at hPR ⊢
        clear hW14
        have R12 := Lib.hid hPR.out.row
        have O12 := Lib.hid hPR.out.two
        have LS8 : Hid (Lp w.heap.size s6 h6 g7 s7 h7 s8 h8 (rowN [.int .i64 r, .slice a l.length k]) (rowN (pcL p)) (rowN (toL R a6 X.2.1.length k6 p6 X.2.2.length d6 X.1)) (rowN [.int .i64 r, .slice (some ⟨g7, 0, none⟩) l.length l.length]) (rowN (toL R a8 X.2.1.length k8 p8 X.2.2.length d8 X.1)) l.length (mk1 1) (TwL (w.heap.size + 2) h6 a6 X.2.1.length k6 (Tb.fl X.2.1) p6 X.2.2.length d6 (Tb.fl X.2.2)) (TwL h7 h8 a8 X.2.1.length k8 (mk1 1) p8 X.2.2.length d8 (mk1 (1 + X.2.1.length * 3))) w W14) := LS6.out.same TwL.stab TwL.stab hPR.out.bel
        clear hPR LS6 HB12 HR12 HP12
        obtain ⟨⟨y0, y1, y2, y3⟩, _⟩ := rowN4 R12.out
        obtain ⟨⟨u0, u1, u2, u3⟩, _⟩ := rowN4 LS8.out.r6
        go_wp2_with fail
        clear y0 y1 y2 y3 u0 u1 u2 u3
        refine (eqTubeOut_same R a12 a6 p12 p6 X.2.1.length k12 k6 X.2.2.length d12 d6 X.1 (Tb.fl X.2.1) (Tb.fl X.2.2) _ O12.out.x.at_ LS8.out.t6.x.at_ O12.out.y.at_ LS8.out.t6.y.at_ HL1.out HL2.out).mono ?_
        rintro e w15 ⟨rfl, hb⟩
        have LS9 : Hid (Lp w.heap.size s6 h6 g7 s7 h7 s8 h8 (rowN [.int .i64 r, .slice a l.length k]) (rowN (pcL p)) (rowN (toL R a6 X.2.1.length k6 p6 X.2.2.length d6 X.1)) (rowN [.int .i64 r, .slice (some ⟨g7, 0, none⟩) l.length l.length]) (rowN (toL R a8 X.2.1.length k8 p8 X.2.2.length d8 X.1)) l.length (mk1 1) (TwL (w.heap.size + 2) h6 a6 X.2.1.length k6 (Tb.fl X.2.1) p6 X.2.2.length d6 (Tb.fl X.2.2)) (TwL h7 h8 a8 X.2.1.length k8 (mk1 1) p8 X.2.2.length d8 (mk1 (1 + X.2.1.length * 3))) w w15) := LS8.out.same TwL.stab TwL.stab hb
        clear hb LS8 R12 O12
        obtain ⟨⟨y0, y1, y2, y3⟩, _⟩ := rowN4 LS9.out.r8
        go_wp2_with fail
        refine (heldTubeOut_any h7 h8 R a8 X.2.1.length k8 p8 X.2.2.length d8 X.1 _ LS9.out.t8 HL1.out HL2.out).mono ?_
        rintro e w16 ⟨rfl, hb⟩
        rw [← HM.out]
        have HBE : Hid (Below w.heap.size w w16) := LS9.out.bel.trans (hb.mono LS9.out.bel.size)
        clear hb LS9 y0 y1 y2 y3
        go_wp2_with fail
        go_ret
        exact ⟨rfl, HBE.out⟩
end Go.Proofs.YtjmnehlgefpheaaDoor
