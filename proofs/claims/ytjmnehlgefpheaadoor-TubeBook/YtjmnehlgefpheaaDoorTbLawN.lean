/-
  The law FnExactTubeRun.
-/
import Derived.Test.YtjmnehlgefpheaaDoorTbLo
import Derived.Test.YtjmnehlgefpheaaDoorTbS2
namespace Go.Proofs.YtjmnehlgefpheaaDoor
open Go.RowKit Go.Deep

theorem runX_len (m r : Int) (l pl : List Tb.Pc) : (runX m r l pl).2.1.length ≤ 60 ∧ (runX m r l pl).2.2.length ≤ 3660 := by
  unfold runX
  by_cases h : 60 < pl.length
  · rw [if_pos h]; simp
  · rw [if_neg h]
    by_cases hc : (0 ≤ m ∧ m ≤ 1000) ∧ Tb.Right r l
    · rw [Tb.runOf_yes hc]
      rcases Tb.runA_code m pl l.reverse [] with e | e | e
      · have h1 := Tb.runA_book hc.1.1 hc.1.2 pl l.reverse [] (Tb.right_fill hc.2) e
        have h2 := Tb.runA_len m hc.1.1 hc.1.2 pl l.reverse [] (Tb.right_fill hc.2)
        have h3 := h1.1.1.2
        simp only [List.length_reverse, List.length_nil] at *
        omega
      · rw [e]; simp
      · rw [e]; simp
    · rw [Tb.runOf_no hc]; simp
theorem TwL.of_two {lo hi k d : Nat} {a p : Option Addr} {L O : List Tb.Pc} {W : World} (h : TwO lo a k L p d O W) (hh : W.heap.size ≤ hi) : TwL lo hi a L.length k (Tb.fl L) p O.length d (Tb.fl O) W :=
  ⟨h.x.low (Nat.zero_le _), h.y.low (Nat.zero_le _), fun k e => ⟨(h.x.lt e).1, by have := (h.x.lt e).2; omega⟩, fun k e => ⟨(h.y.lt e).1, by have := (h.y.lt e).2; omega⟩, h.ne⟩
theorem TwL.stab2 {lo lo' hi n c m d : Nat} {a p : Option Addr} {f g : Nat → Int} (h : lo ≤ lo') : Stab lo hi (TwL lo' hi a n c f p m d g) := fun _ _ ht hb => ht.same (fun k h1 h2 hk => hb k (by omega) h2 hk)
theorem TwL.up {lo lo' hi n c m d : Nat} {a p : Option Addr} {f g : Nat → Int} {W : World} (h : TwL lo hi a n c f p m d g W) (hl : lo' ≤ lo) : TwL lo' hi a n c f p m d g W := ⟨h.x, h.y, fun k e => ⟨by have := (h.bx k e).1; omega, (h.bx k e).2⟩, fun k e => ⟨by have := (h.by_ k e).1; omega, (h.by_ k e).2⟩, h.ne⟩
/-- Another list bears marks. -/
theorem Ls.far {s s6 g7 s7 s8 g9 : Nat} {T : TypeId} {wd : Nat} {A R6 R7 R8 : Nat → Value} {n7 : Nat} {f7 : Nat → Int} {E6 E8 : World → Prop} {w W W' : World} (h : Ls s s6 g7 s7 s8 T wd A R6 R7 R8 n7 f7 E6 E8 w W) (h6 : Stab (s + 1) s6 E6) (h8 : E8 W') (hg : s7 < g9 ∧ g9 < s8) (ho : OnlyO (some ⟨g9, 0, none⟩) W W') : Ls s s6 g7 s7 s8 T wd A R6 R7 R8 n7 f7 E6 E8 w W' := by
  have o1 := h.o1; have o2 := h.o2; have o3 := h.o3; have o4 := h.o4
  have hb : ∀ k, k < W.heap.size → k ≠ g9 → W'.heap[k]? = W.heap[k]? := fun k hk hne => ho.block k hk (fun e => hne (by cases e; rfl))
  exact ⟨h.arg.of_block (hb _ h.arg.lt (by omega)), h.r6.of_block (hb _ h.r6.lt (by omega)), h6 _ _ h.t6 (fun k _ h1 hk => hb k hk (by omega)), h.r7.of_block (hb _ h.r7.lt (by omega)), h.k7.block (hb _ h.k7.lt (by omega)), h.r8.of_block (hb _ h.r8.lt (by omega)), h8, o1, o2, o3, o4, h.bel.trans ⟨ho.os, ho.tape, ho.output, ho.size, fun k hk => hb k (by have := h.arg.lt; omega) (by omega)⟩⟩
set_option maxRecDepth 100000 in
set_option maxHeartbeats 8000000 in
theorem tRun_law (w : World) (r : Int) (a : Option Addr) (n k : Nat) (f : Nat → Int) (h1 : IsIn a (n * 3) f w) (hm1 : n ≤ 9223372036854775807) (pa : Option Addr) (np kp : Nat) (fp : Nat → Int) (h2 : IsIn pa (np * 3) fp w) (hm2 : np ≤ 9223372036854775807) (mill : Int) (hg : Et w ∧ TabOk w) :
    Calls Tryd.prog 6 #[tbV r a n k, .slice pa np kp, .int .i64 mill] w fun e w' => e = .returned (.bool true) ∧ Below w.heap.size w w' := by
  obtain ⟨l, rfl, hl⟩ := isIn_list h1
  obtain ⟨pl, rfl, hpl⟩ := isIn_list h2
  have H1 := Lib.hid hl
  have H2 := Lib.hid hpl
  have HET := Lib.hid hg
  obtain ⟨X, hX⟩ : ∃ X, X = runX mill r l pl := ⟨_, rfl⟩
  obtain ⟨R, hR⟩ : ∃ R, R = roomOf r X := ⟨_, rfl⟩
  have HL1 : Hid (X.2.1.length ≤ 1048576) := by show _ ≤ _; rw [hX]; have := (runX_len mill r l pl).1; omega
  have HL2 : Hid (X.2.2.length ≤ 1048576) := by show _ ≤ _; rw [hX]; have := (runX_len mill r l pl).2; omega
  have SPEC : Hid (∀ (g k g' k' : Nat) (W : World), IsAt (some ⟨g, 0, none⟩) (l.length * 3) (Tb.fl l) W → IsAt (some ⟨g', 0, none⟩) (pl.length * 3) (Tb.fl pl) W → pl.length ≤ 1048576 → Calls Tryd.prog 8 #[tbV r (some ⟨g, 0, none⟩) l.length k, .slice (some ⟨g', 0, none⟩) pl.length k', .int .i64 mill] W fun e w' => (∃ a k p d, e = .returned (toV R a X.2.1.length k p X.2.2.length d X.1) ∧ TwO W.heap.size a k X.2.1 p d X.2.2 w') ∧ Below W.heap.size W w') := fun g k g' k' W h h' hn => by rw [hR, hX]; exact sRun_any r _ l k _ pl k' mill W h h' hn
  have IMPL : Hid (∀ (g k g' k' : Nat) (W : World), IsAt (some ⟨g, 0, none⟩) (l.length * 3) (Tb.fl l) W → IsAt (some ⟨g', 0, none⟩) (pl.length * 3) (Tb.fl pl) W → Et W ∧ TabOk W → Calls Tryd.prog 9 #[tbV r (some ⟨g, 0, none⟩) l.length k, .slice (some ⟨g', 0, none⟩) pl.length k', .int .i64 mill] W fun e w' => (∃ a k p d, e = .returned (toV R a X.2.1.length k p X.2.2.length d X.1) ∧ TwO W.heap.size a k X.2.1 p d X.2.2 w') ∧ Below W.heap.size W w') := fun g k g' k' W h h' hn => by rw [hR, hX]; exact implRun_any r _ l k _ pl k' mill W h h' hn
  have GLOB : Hid (∀ W, Below w.heap.size w W → Et W ∧ TabOk W) := fun W hb => ⟨HET.out.1.below hb, tab_below HET.out.2 hb⟩
  clear hR hX
  obtain ⟨W, hW⟩ : ∃ W, W = w.alloc (.cells #[.int .i64 r, .slice a l.length k] 41) := ⟨_, rfl⟩
  have HB : Hid (Below w.heap.size w W) := by show Below _ _ _; rw [hW]; exact nbel_alloc _ _
  have HR : Hid (W.rowIs w.heap.size 41 2 (rowN [.int .i64 r, .slice a l.length k])) := by show World.rowIs _ _ _ _ _; rw [hW]; exact rowN_alloc w _ _
  have HW := Lib.hid hW
  have HM1 := Lib.hid hm1
  have HM2 := Lib.hid hm2
  clear hW h1 hl hm1 h2 hpl hm2 hg HET
  go_enter Tryd.func6, Tryd.ntmps6
  go_wp2_with fail
  rw [← HW.out]
  refine (szTube_any r a l.length k 1048576 _ (by omega) HM1.out).mono ?_
  rintro e w1 ⟨hz, hb1⟩
  have HB1 : Hid (Below w.heap.size w w1) := HB.out.trans (hb1.mono HB.out.size)
  have HR1 := Lib.hid (nrow_below HR.out hb1)
  clear hb1 HR HB HW
  rcases hz with ⟨z, rfl, hz⟩ | ⟨hn1, rfl⟩
  · go_wp2_with fail
    go_ret
    exact ⟨rfl, HB1.out⟩
  obtain ⟨left, hleft⟩ : ∃ left, left = 1048576 - l.length := ⟨_, rfl⟩
  rw [← hleft]
  have hlf : left ≤ 1048576 := by omega
  have hz : ¬ (left : Int) < 0 := by omega
  have N1 := Lib.hid hn1
  clear hn1 hleft
  by_cases hn2 : pl.length ≤ left
  case neg =>
    go_wp2_with fail
    refine (nszParcel_over pa pl.length kp left _ (by omega) (by omega) HM2.out).mono ?_
    rintro e w2 ⟨rfl, e2⟩
    subst w2
    go_wp2_with fail
    go_ret
    exact ⟨rfl, HB1.out⟩
  go_wp2_with fail
  refine (nszParcel_in pa pl.length kp left _ hn2 (by omega)).mono ?_
  rintro e w2 ⟨rfl, e2⟩
  subst w2
  have hz2 : ¬ ((left - pl.length : Nat) : Int) < 0 := by omega
  have N2 : Hid (pl.length ≤ 1048576) := by show _ ≤ _; omega
  clear hn2
  obtain ⟨⟨a0, a1⟩, _⟩ := rowN2 HR1.out
  go_wp2_with fail
  refine (toTube_any r a l.length k (Tb.fl l) _ (H1.out.below HB1.out) N1.out).mono ?_
  rintro e w2 ⟨⟨g1, rfl, _, hk⟩, hb⟩
  have HR2 := Lib.hid (nrow_below HR1.out hb)
  have HB2 : Hid (Below w.heap.size w w2) := HB1.out.trans (hb.mono HB1.out.size)
  have HK2 := Lib.hid hk
  clear a0 a1 hb hk HR1 HB1
  go_wp2_with fail
  refine (ntoParcelS_any pa pl.length kp (Tb.fl pl) _ (H2.out.below HB2.out) N2.out).mono ?_
  rintro e w2b ⟨⟨rfl, hk⟩, hb⟩
  have HR2b := Lib.hid (nrow_below HR2.out hb)
  have HB2b : Hid (Below w.heap.size w w2b) := HB2.out.trans (hb.mono HB2.out.size)
  have HK2b := Lib.hid (HK2.out.below hb)
  have HK2c := Lib.hid hk
  clear hb hk HR2 HB2 HK2
  go_wp2_with fail
  refine (SPEC.out g1 l.length _ pl.length _ HK2b.out.at_ HK2c.out.at_ N2.out).mono ?_
  rintro e w3 ⟨⟨a6, k6, p6, d6, rfl, ho6⟩, hb⟩
  obtain ⟨W3, hW3⟩ : ∃ W3, W3 = w3.alloc (.cells #[.int .i64 R, .slice a6 X.2.1.length k6, .slice p6 X.2.2.length d6, .int .i64 X.1] 29) := ⟨_, rfl⟩
  have hb3 : Below w3.heap.size w3 W3 := by rw [hW3]; exact nbel_alloc _ _
  have R6 : Hid (W3.rowIs w3.heap.size 29 4 (rowN (toL R a6 X.2.1.length k6 p6 X.2.2.length d6 X.1))) := by show World.rowIs _ _ _ _ _; rw [hW3]; exact rowN_alloc w3 _ _
  have hws : w.heap.size < w2b.heap.size := HR2b.out.lt
  have T6 : Hid (TwL (w.heap.size + 1) w3.heap.size a6 X.2.1.length k6 (Tb.fl X.2.1) p6 X.2.2.length d6 (Tb.fl X.2.2) W3) := (TwL.of_two (ho6.low (by omega : w.heap.size + 1 ≤ w2b.heap.size)) (Nat.le_refl _)).same (fun k _ hk _ => hb3.block k hk)
  have HR3 := Lib.hid (nrow_below (nrow_below HR2b.out hb) hb3)
  have hbx : Below w.heap.size w w3 := HB2b.out.trans (hb.mono HB2b.out.size)
  have HB3 : Hid (Below w.heap.size w W3) := hbx.trans (hb3.mono hbx.size)
  have O1 : Hid (w.heap.size < w3.heap.size) := by show _ < _; have := hb.size; omega
  have HW3 := Lib.hid hW3
  clear hb hb3 hW3 ho6 hws HR2b HB2b HK2b HK2c hbx
  obtain ⟨⟨a0, a1⟩, _⟩ := rowN2 HR3.out
  rw [HW3.out] at a0 a1
  go_wp2_with fail
  rw [← HW3.out]
  refine (toTube_any r a l.length k (Tb.fl l) _ (H1.out.below HB3.out) N1.out).mono ?_
  rintro e w4 ⟨⟨g7, rfl, hg7, hk⟩, hb⟩
  obtain ⟨W4, hW4⟩ : ∃ W4, W4 = w4.alloc (.cells #[.int .i64 r, .slice (some ⟨g7, 0, none⟩) l.length l.length] 25) := ⟨_, rfl⟩
  have hb4 : Below w4.heap.size w4 W4 := by rw [hW4]; exact nbel_alloc _ _
  have R7 : Hid (W4.rowIs w4.heap.size 25 2 (rowN [.int .i64 r, .slice (some ⟨g7, 0, none⟩) l.length l.length])) := by show World.rowIs _ _ _ _ _; rw [hW4]; exact rowN_alloc w4 _ _
  have K7 : Hid (IsBlk 38 g7 (l.length * 3) (Tb.fl l) W4) := hk.below hb4
  have O3 : Hid (g7 < w4.heap.size) := hk.lt
  have O2 : Hid (w3.heap.size < g7) := by show _ < _; have := R6.out.lt; omega
  have hbt := hb.trans (hb4.mono hb.size)
  have R6' := Lib.hid (nrow_below R6.out hbt)
  have T6' := Lib.hid (T6.out.same (fun k _ _ hk => hbt.block k hk))
  have HR4 := Lib.hid (nrow_below HR3.out hbt)
  have HB4 : Hid (Below w.heap.size w W4) := HB3.out.trans (hbt.mono HB3.out.size)
  have HW4 := Lib.hid hW4
  clear hb hb4 hbt hW4 hk a0 a1 HR3 HB3 R6 T6 hg7 HW3
  go_wp2_with fail
  rw [← HW4.out]
  refine (ntoParcelS_any pa pl.length kp (Tb.fl pl) _ (H2.out.below HB4.out) N2.out).mono ?_
  rintro e w4b ⟨⟨rfl, hk⟩, hb⟩
  obtain ⟨g9, hg9⟩ : ∃ g9, g9 = W4.heap.size := ⟨_, rfl⟩
  rw [← hg9] at hk ⊢
  have O9 : Hid (w4.heap.size + 1 ≤ g9 + 1) := by show _ ≤ _; have := R7.out.lt; omega
  have O9' : Hid (w4.heap.size < g9) := by show _ < _; rw [hg9]; exact R7.out.lt
  have K9 := Lib.hid hk
  have R6b := Lib.hid (nrow_below R6'.out hb)
  have T6b := Lib.hid (T6'.out.same (fun k _ _ hk => hb.block k hk))
  have HR4b := Lib.hid (nrow_below HR4.out hb)
  have R7b := Lib.hid (nrow_below R7.out hb)
  have K7b := Lib.hid (K7.out.below hb)
  have HB4b : Hid (Below w.heap.size w w4b) := HB4.out.trans (hb.mono HB4.out.size)
  have HG4 := Lib.hid (GLOB.out w4b HB4b.out)
  clear hb hk hg9 R6' T6' HR4 R7 K7 HB4 HW4
  obtain ⟨⟨x0, x1⟩, _⟩ := rowN2 R7b.out
  go_wp2_with fail
  refine (IMPL.out g7 l.length g9 pl.length _ K7b.out.at_ K9.out.at_ HG4.out).mono ?_
  rintro e w5 ⟨⟨a8, k8, p8, d8, rfl, ho8⟩, hb⟩
  obtain ⟨W5, hW5⟩ : ∃ W5, W5 = w5.alloc (.cells #[.int .i64 R, .slice a8 X.2.1.length k8, .slice p8 X.2.2.length d8, .int .i64 X.1] 29) := ⟨_, rfl⟩
  have hb5 : Below w5.heap.size w5 W5 := by rw [hW5]; exact nbel_alloc _ _
  have hbt := hb.trans (hb5.mono hb.size)
  have h9l := K9.out.lt
  have LS0 : Hid (Ls w.heap.size w3.heap.size g7 w4.heap.size w5.heap.size 29 4 (rowN [.int .i64 r, .slice a l.length k]) (rowN (toL R a6 X.2.1.length k6 p6 X.2.2.length d6 X.1)) (rowN [.int .i64 r, .slice (some ⟨g7, 0, none⟩) l.length l.length]) (rowN (toL R a8 X.2.1.length k8 p8 X.2.2.length d8 X.1)) l.length (Tb.fl l) (TwL (w.heap.size + 1) w3.heap.size a6 X.2.1.length k6 (Tb.fl X.2.1) p6 X.2.2.length d6 (Tb.fl X.2.2)) (TwL (g9 + 1) w5.heap.size a8 X.2.1.length k8 (Tb.fl X.2.1) p8 X.2.2.length d8 (Tb.fl X.2.2)) w W5) :=
    ⟨nrow_below HR4b.out hbt, nrow_below R6b.out hbt, T6b.out.same (fun k _ _ hk => hbt.block k hk), nrow_below R7b.out hbt, K7b.out.below hbt, by rw [hW5]; exact rowN_alloc w5 _ _, (TwL.of_two (ho8.low (by omega : g9 + 1 ≤ w4b.heap.size)) (Nat.le_refl _)).same (fun k _ hk _ => hb5.block k hk), O1.out, O2.out, O3.out, by have := hb.size; have := R7b.out.lt; omega, HB4b.out.trans (hbt.mono HB4b.out.size)⟩
  have O95 : Hid (g9 < w5.heap.size) := by show _ < _; have := hb.size; omega
  have K90 : Hid (IsBlk 38 g9 (pl.length * 3) (Tb.fl pl) W5) := K9.out.below hbt
  have HW5 := Lib.hid hW5
  clear hb hb5 hbt hW5 ho8 x0 x1 h9l HR4b HB4b R6b T6b R7b K7b K9 HG4
  obtain ⟨⟨y0, y1, y2, y3⟩, _⟩ := rowN4 LS0.out.r8
  obtain ⟨⟨u0, u1, u2, u3⟩, _⟩ := rowN4 LS0.out.r6
  rw [HW5.out] at y0 y1 y2 y3 u0 u1 u2 u3
  go_wp2_with fail
  rw [← HW5.out]
  clear y0 y1 y2 y3 u0 u1 u2 u3 HW5
  refine (eqTubeOut_same R a8 a6 p8 p6 X.2.1.length k8 k6 X.2.2.length d8 d6 X.1 (Tb.fl X.2.1) (Tb.fl X.2.2) _ LS0.out.t8.x.at_ LS0.out.t6.x.at_ LS0.out.t8.y.at_ LS0.out.t6.y.at_ HL1.out HL2.out).mono ?_
  rintro e w6 ⟨rfl, hb⟩
  have LS1 : Hid (Ls w.heap.size w3.heap.size g7 w4.heap.size w5.heap.size 29 4 (rowN [.int .i64 r, .slice a l.length k]) (rowN (toL R a6 X.2.1.length k6 p6 X.2.2.length d6 X.1)) (rowN [.int .i64 r, .slice (some ⟨g7, 0, none⟩) l.length l.length]) (rowN (toL R a8 X.2.1.length k8 p8 X.2.2.length d8 X.1)) l.length (Tb.fl l) (TwL (w.heap.size + 1) w3.heap.size a6 X.2.1.length k6 (Tb.fl X.2.1) p6 X.2.2.length d6 (Tb.fl X.2.2)) (TwL (g9 + 1) w5.heap.size a8 X.2.1.length k8 (Tb.fl X.2.1) p8 X.2.2.length d8 (Tb.fl X.2.2)) w w6) := LS0.out.same TwL.stab (TwL.stab2 O9.out) hb
  have K91 := Lib.hid (K90.out.below hb)
  clear hb LS0 K90
  go_wp2_with fail
  refine wp_region_held_drew (S := fun V => (Ls w.heap.size w3.heap.size g7 w4.heap.size w5.heap.size 29 4 (rowN [.int .i64 r, .slice a l.length k]) (rowN (toL R a6 X.2.1.length k6 p6 X.2.2.length d6 X.1)) (rowN [.int .i64 r, .slice (some ⟨g7, 0, none⟩) l.length l.length]) (rowN (toL R a8 X.2.1.length k8 p8 X.2.2.length d8 X.1)) l.length (Tb.fl l) (TwL (w.heap.size + 1) w3.heap.size a6 X.2.1.length k6 (Tb.fl X.2.1) p6 X.2.2.length d6 (Tb.fl X.2.2)) (TwL (g9 + 1) w5.heap.size a8 X.2.1.length k8 (Tb.fl X.2.1) p8 X.2.2.length d8 (Tb.fl X.2.2)) w V) ∧ IsBlk 38 g9 (pl.length * 3) (Tb.fl pl) V) (by kernel_rfl) ⟨LS1.out.same TwL.stab (TwL.stab2 O9.out) (Below.refl _ _).drew, K91.out.below (Below.refl _ _).drew⟩ (fun hHeld => ?_)
  clear LS1 K91
  refine take_do (i := 0) (v := tbV r (some ⟨g7, 0, none⟩) l.length l.length) rfl (by kernel_rfl) (by kernel_rfl) (by kernel_rfl) (fun _ _ _ h => h) (by rfl) ?_ (by assumption) ?_
  · intro w hSw
    obtain ⟨⟨x0, x1⟩, _⟩ := rowN2 hSw.1.r7
    go_simp
  simp only [Act.put, List.setIfInBounds_toArray, List.set_cons_zero, List.set_cons_succ]
  refine take_do (i := 1) (v := tbV r a l.length k) rfl (by kernel_rfl) (by kernel_rfl) (by kernel_rfl) (fun _ _ _ h => h) (by rfl) ?_ (by assumption) ?_
  · intro w hSw
    obtain ⟨⟨x0, x1⟩, _⟩ := rowN2 hSw.1.arg
    go_simp
  simp only [Act.put, List.setIfInBounds_toArray, List.set_cons_zero, List.set_cons_succ]
  refine take_call (i := 2) rfl (by kernel_rfl) (fun K2 hK => ?_)
  go_simp
  refine (toTube_any r a l.length k (Tb.fl l) _ (H1.out.below hHeld.1.bel) N1.out).mono ?_
  rintro e w7 ⟨⟨g10, rfl, _, hk9⟩, hb⟩
  have HK9 := Lib.hid hk9
  go_wp2_with fail
  refine hK.out _ _ ⟨hHeld.1.same TwL.stab (TwL.stab2 O9.out) hb, hHeld.2.below hb⟩ (fun hHeld2 => ?_)
  clear hK hHeld hb hk9
  refine take_call (i := 3) rfl (by kernel_rfl) (fun K2 hK => ?_)
  go_simp
  refine (eqTube_same r _ _ l.length l.length l.length (Tb.fl l) _ hHeld2.1.k7.at_ HK9.out.at_ N1.out).mono ?_
  rintro e w8 ⟨rfl, hb⟩
  go_wp2_with fail
  refine hK.out _ _ ⟨hHeld2.1.same TwL.stab (TwL.stab2 O9.out) hb, hHeld2.2.below hb⟩ (fun hHeld => ?_)
  clear hK hHeld2 hb
  refine take_do (i := 4) (v := .bool false) rfl (by kernel_rfl) (by kernel_rfl) (by kernel_rfl) (fun _ _ _ h => h) (by rfl) ?_ (by assumption) ?_
  · intro w hSw
    go_simp
  simp only [Act.put, List.setIfInBounds_toArray, List.set_cons_zero, List.set_cons_succ]
  refine wpAnyH_done (by kernel_rfl) ?_ _
  have LS2 : Hid (Ls w.heap.size w3.heap.size g7 w4.heap.size w5.heap.size 29 4 (rowN [.int .i64 r, .slice a l.length k]) (rowN (toL R a6 X.2.1.length k6 p6 X.2.2.length d6 X.1)) (rowN [.int .i64 r, .slice (some ⟨g7, 0, none⟩) l.length l.length]) (rowN (toL R a8 X.2.1.length k8 p8 X.2.2.length d8 X.1)) l.length (Tb.fl l) (TwL (w.heap.size + 1) w3.heap.size a6 X.2.1.length k6 (Tb.fl X.2.1) p6 X.2.2.length d6 (Tb.fl X.2.2)) (TwL (g9 + 1) w5.heap.size a8 X.2.1.length k8 (Tb.fl X.2.1) p8 X.2.2.length d8 (Tb.fl X.2.2)) w w8) := hHeld.1
  have K92 : Hid (IsBlk 38 g9 (pl.length * 3) (Tb.fl pl) w8) := hHeld.2
  clear hHeld HK9
  go_wp2_with fail
  refine (ntoParcelS_any pa pl.length kp (Tb.fl pl) _ (H2.out.below LS2.out.bel) N2.out).mono ?_
  rintro e w8a ⟨⟨rfl, hk⟩, hb⟩
  have LS2a : Hid (Ls w.heap.size w3.heap.size g7 w4.heap.size w5.heap.size 29 4 (rowN [.int .i64 r, .slice a l.length k]) (rowN (toL R a6 X.2.1.length k6 p6 X.2.2.length d6 X.1)) (rowN [.int .i64 r, .slice (some ⟨g7, 0, none⟩) l.length l.length]) (rowN (toL R a8 X.2.1.length k8 p8 X.2.2.length d8 X.1)) l.length (Tb.fl l) (TwL (w.heap.size + 1) w3.heap.size a6 X.2.1.length k6 (Tb.fl X.2.1) p6 X.2.2.length d6 (Tb.fl X.2.2)) (TwL (g9 + 1) w5.heap.size a8 X.2.1.length k8 (Tb.fl X.2.1) p8 X.2.2.length d8 (Tb.fl X.2.2)) w w8a) := LS2.out.same TwL.stab (TwL.stab2 O9.out) hb
  have K92a := Lib.hid (K92.out.below hb)
  have HKA := Lib.hid hk
  clear hb hk LS2 K92
  go_wp2_with fail
  refine (neqParcelS_same _ _ pl.length pl.length pl.length (Tb.fl pl) _ K92a.out.at_ HKA.out.at_ N2.out).mono ?_
  rintro e w8b ⟨rfl, hb⟩
  have LS2b : Hid (Ls w.heap.size w3.heap.size g7 w4.heap.size w5.heap.size 29 4 (rowN [.int .i64 r, .slice a l.length k]) (rowN (toL R a6 X.2.1.length k6 p6 X.2.2.length d6 X.1)) (rowN [.int .i64 r, .slice (some ⟨g7, 0, none⟩) l.length l.length]) (rowN (toL R a8 X.2.1.length k8 p8 X.2.2.length d8 X.1)) l.length (Tb.fl l) (TwL (w.heap.size + 1) w3.heap.size a6 X.2.1.length k6 (Tb.fl X.2.1) p6 X.2.2.length d6 (Tb.fl X.2.2)) (TwL (g9 + 1) w5.heap.size a8 X.2.1.length k8 (Tb.fl X.2.1) p8 X.2.2.length d8 (Tb.fl X.2.2)) w w8b) := LS2a.out.same TwL.stab (TwL.stab2 O9.out) hb
  have K92b := Lib.hid (K92a.out.below hb)
  clear hb LS2a K92a HKA
  obtain ⟨⟨x0, x1⟩, _⟩ := rowN2 LS2b.out.r7
  go_wp2_with fail
  refine (markTube_any 0 r (some ⟨g7, 0, none⟩) l.length l.length 1 (Tb.fl l) _ (Or.inr ⟨g7, rfl, Nat.zero_le _, LS2b.out.k7⟩) N1.out (by omega)).mono ?_
  rintro e w9 ⟨rfl, hk, ho⟩
  have hk' : IsBlk 38 g7 (l.length * 3) (mk1 1) w9 := by
    rcases hk with h | ⟨g, e, _, h⟩
    · cases h.1
    · cases e; exact h
  have LS3 : Hid (Ls w.heap.size w3.heap.size g7 w4.heap.size w5.heap.size 29 4 (rowN [.int .i64 r, .slice a l.length k]) (rowN (toL R a6 X.2.1.length k6 p6 X.2.2.length d6 X.1)) (rowN [.int .i64 r, .slice (some ⟨g7, 0, none⟩) l.length l.length]) (rowN (toL R a8 X.2.1.length k8 p8 X.2.2.length d8 X.1)) l.length (mk1 1) (TwL (w.heap.size + 1) w3.heap.size a6 X.2.1.length k6 (Tb.fl X.2.1) p6 X.2.2.length d6 (Tb.fl X.2.2)) (TwL (g9 + 1) w5.heap.size a8 X.2.1.length k8 (Tb.fl X.2.1) p8 X.2.2.length d8 (Tb.fl X.2.2)) w w9) := LS2b.out.mark7 TwL.stab (TwL.stab2 O9.out) hk' ho
  have K93 : Hid (IsBlk 38 g9 (pl.length * 3) (Tb.fl pl) w9) := K92b.out.block (ho.block _ K92b.out.lt (fun e => by cases e; have := O9'.out; have := O3.out; omega))
  obtain ⟨Z, hZ⟩ : ∃ Z : Nat, Z = 1 + l.length * 3 := ⟨_, rfl⟩
  rw [← hZ]
  have hZ1 : Z ≤ 3145729 := by have := N1.out; omega
  clear hk hk' ho hZ x0 x1 LS2b K92b
  go_wp2_with fail
  refine (nmarkPs_any 0 pl.length pl.length Z (some ⟨g9, 0, none⟩) (Tb.fl pl) _ (Or.inr ⟨g9, rfl, Nat.zero_le _, K93.out⟩) (fun e => by cases e) N2.out (by omega)).mono ?_
  rintro e w9b ⟨rfl, _, ho⟩
  have LS3b : Hid (Ls w.heap.size w3.heap.size g7 w4.heap.size w5.heap.size 29 4 (rowN [.int .i64 r, .slice a l.length k]) (rowN (toL R a6 X.2.1.length k6 p6 X.2.2.length d6 X.1)) (rowN [.int .i64 r, .slice (some ⟨g7, 0, none⟩) l.length l.length]) (rowN (toL R a8 X.2.1.length k8 p8 X.2.2.length d8 X.1)) l.length (mk1 1) (TwL (w.heap.size + 1) w3.heap.size a6 X.2.1.length k6 (Tb.fl X.2.1) p6 X.2.2.length d6 (Tb.fl X.2.2)) (TwL (g9 + 1) w5.heap.size a8 X.2.1.length k8 (Tb.fl X.2.1) p8 X.2.2.length d8 (Tb.fl X.2.2)) w w9b) := LS3.out.far TwL.stab (LS3.out.t8.same (fun k h1 _ hk => ho.block k hk (fun e => by cases e; omega))) ⟨O9'.out, O95.out⟩ ho
  obtain ⟨Z2, hZ2⟩ : ∃ Z2 : Nat, Z2 = Z + pl.length * 3 := ⟨_, rfl⟩
  rw [← hZ2]
  have hZ0 : ¬ (Z2 : Int) < 0 := by omega
  clear ho hZ2 LS3 K93
  obtain ⟨⟨y0, y1, y2, y3⟩, _⟩ := rowN4 LS3b.out.r8
  obtain ⟨⟨u0, u1, u2, u3⟩, _⟩ := rowN4 LS3b.out.r6
  go_wp2_with fail
  refine (eqTubeOut_same R a8 a6 p8 p6 X.2.1.length k8 k6 X.2.2.length d8 d6 X.1 (Tb.fl X.2.1) (Tb.fl X.2.2) _ LS3b.out.t8.x.at_ LS3b.out.t6.x.at_ LS3b.out.t8.y.at_ LS3b.out.t6.y.at_ HL1.out HL2.out).mono ?_
  rintro e w10 ⟨rfl, hb⟩
  have LS4 : Hid (Ls w.heap.size w3.heap.size g7 w4.heap.size w5.heap.size 29 4 (rowN [.int .i64 r, .slice a l.length k]) (rowN (toL R a6 X.2.1.length k6 p6 X.2.2.length d6 X.1)) (rowN [.int .i64 r, .slice (some ⟨g7, 0, none⟩) l.length l.length]) (rowN (toL R a8 X.2.1.length k8 p8 X.2.2.length d8 X.1)) l.length (mk1 1) (TwL (w.heap.size + 1) w3.heap.size a6 X.2.1.length k6 (Tb.fl X.2.1) p6 X.2.2.length d6 (Tb.fl X.2.2)) (TwL (g9 + 1) w5.heap.size a8 X.2.1.length k8 (Tb.fl X.2.1) p8 X.2.2.length d8 (Tb.fl X.2.2)) w w10) := LS3b.out.same TwL.stab (TwL.stab2 O9.out) hb
  clear hb LS3b y0 y1 y2 y3 u0 u1 u2 u3
  obtain ⟨⟨y0, y1, y2, y3⟩, _⟩ := rowN4 LS4.out.r8
  go_wp2_with fail
  refine (markTubeOut_any (g9 + 1) w5.heap.size R a8 X.2.1.length k8 (Tb.fl X.2.1) p8 X.2.2.length d8 (Tb.fl X.2.2) X.1 _ LS4.out.t8 HL1.out HL2.out).mono ?_
  rintro e w11 ⟨rfl, hk, ho, hm⟩
  have LS5 : Hid (Ls w.heap.size w3.heap.size g7 w4.heap.size w5.heap.size 29 4 (rowN [.int .i64 r, .slice a l.length k]) (rowN (toL R a6 X.2.1.length k6 p6 X.2.2.length d6 X.1)) (rowN [.int .i64 r, .slice (some ⟨g7, 0, none⟩) l.length l.length]) (rowN (toL R a8 X.2.1.length k8 p8 X.2.2.length d8 X.1)) l.length (mk1 1) (TwL (w.heap.size + 1) w3.heap.size a6 X.2.1.length k6 (Tb.fl X.2.1) p6 X.2.2.length d6 (Tb.fl X.2.2)) (TwL (g9 + 1) w5.heap.size a8 X.2.1.length k8 (mk1 1) p8 X.2.2.length d8 (mk1 (1 + X.2.1.length * 3))) w w11) := LS4.out.mark8 TwL.stab hk (fun k hk hne => ho k hk (fun e => hne (by have := LS4.out.t8.bx k e; have := O9'.out; omega)) (fun e => hne (by have := LS4.out.t8.by_ k e; have := O9'.out; omega))) hm
  obtain ⟨M, hM⟩ : ∃ M : Nat, M = 1 + X.2.1.length * 3 + X.2.2.length * 3 := ⟨_, rfl⟩
  rw [← hM]
  have HM := Lib.hid hM
  clear hk ho hm hM y0 y1 y2 y3 LS4
  obtain ⟨⟨y0, y1, y2, y3⟩, _⟩ := rowN4 LS5.out.r8
  go_wp2_with fail
  refine (heldTubeOut_any (g9 + 1) w5.heap.size R a8 X.2.1.length k8 p8 X.2.2.length d8 X.1 _ LS5.out.t8 HL1.out HL2.out).mono ?_
  rintro e w12 ⟨rfl, hb⟩
  rw [← HM.out]
  have LS6 : Hid (Ls w.heap.size w3.heap.size g7 w4.heap.size w5.heap.size 29 4 (rowN [.int .i64 r, .slice a l.length k]) (rowN (toL R a6 X.2.1.length k6 p6 X.2.2.length d6 X.1)) (rowN [.int .i64 r, .slice (some ⟨g7, 0, none⟩) l.length l.length]) (rowN (toL R a8 X.2.1.length k8 p8 X.2.2.length d8 X.1)) l.length (mk1 1) (TwL (w.heap.size + 1) w3.heap.size a6 X.2.1.length k6 (Tb.fl X.2.1) p6 X.2.2.length d6 (Tb.fl X.2.2)) (TwL (g9 + 1) w5.heap.size a8 X.2.1.length k8 (mk1 1) p8 X.2.2.length d8 (mk1 (1 + X.2.1.length * 3))) w w12) := LS5.out.same TwL.stab (TwL.stab2 O9.out) hb
  have hM0 : ¬ (M : Int) < 0 := by omega
  have hMM : ((M : Int) != (M : Int)) = false := by simp
  clear hb LS5 y0 y1 y2 y3
  obtain ⟨⟨a0, a1⟩, _⟩ := rowN2 LS6.out.arg
  go_wp2_with fail
  refine (toTube_any r a l.length k (Tb.fl l) _ (H1.out.below LS6.out.bel) N1.out).mono ?_
  rintro e w13 ⟨⟨g13, rfl, _, hk⟩, hb⟩
  have LS7 : Hid (Ls w.heap.size w3.heap.size g7 w4.heap.size w5.heap.size 29 4 (rowN [.int .i64 r, .slice a l.length k]) (rowN (toL R a6 X.2.1.length k6 p6 X.2.2.length d6 X.1)) (rowN [.int .i64 r, .slice (some ⟨g7, 0, none⟩) l.length l.length]) (rowN (toL R a8 X.2.1.length k8 p8 X.2.2.length d8 X.1)) l.length (mk1 1) (TwL (w.heap.size + 1) w3.heap.size a6 X.2.1.length k6 (Tb.fl X.2.1) p6 X.2.2.length d6 (Tb.fl X.2.2)) (TwL (g9 + 1) w5.heap.size a8 X.2.1.length k8 (mk1 1) p8 X.2.2.length d8 (mk1 (1 + X.2.1.length * 3))) w w13) := LS6.out.same TwL.stab (TwL.stab2 O9.out) hb
  have HK13 := Lib.hid hk
  clear hb hk LS6 a0 a1
  go_wp2_with fail
  refine (ntoParcelS_any pa pl.length kp (Tb.fl pl) _ (H2.out.below LS7.out.bel) N2.out).mono ?_
  rintro e w13b ⟨⟨rfl, hk⟩, hb⟩
  have LS7b : Hid (Ls w.heap.size w3.heap.size g7 w4.heap.size w5.heap.size 29 4 (rowN [.int .i64 r, .slice a l.length k]) (rowN (toL R a6 X.2.1.length k6 p6 X.2.2.length d6 X.1)) (rowN [.int .i64 r, .slice (some ⟨g7, 0, none⟩) l.length l.length]) (rowN (toL R a8 X.2.1.length k8 p8 X.2.2.length d8 X.1)) l.length (mk1 1) (TwL (w.heap.size + 1) w3.heap.size a6 X.2.1.length k6 (Tb.fl X.2.1) p6 X.2.2.length d6 (Tb.fl X.2.2)) (TwL (g9 + 1) w5.heap.size a8 X.2.1.length k8 (mk1 1) p8 X.2.2.length d8 (mk1 (1 + X.2.1.length * 3))) w w13b) := LS7.out.same TwL.stab (TwL.stab2 O9.out) hb
  have HK13b := Lib.hid (HK13.out.below hb)
  have HK14 := Lib.hid hk
  have HG7 := Lib.hid (GLOB.out w13b LS7b.out.bel)
  clear hb hk LS7 HK13
  go_wp2_with fail
  refine (IMPL.out g13 l.length _ pl.length _ HK13b.out.at_ HK14.out.at_ HG7.out).mono ?_
  rintro e w14 ⟨⟨a12, k12, p12, d12, rfl, ho12⟩, hb⟩
  obtain ⟨W14, hW14⟩ : ∃ W14, W14 = w14.alloc (.cells #[.int .i64 R, .slice a12 X.2.1.length k12, .slice p12 X.2.2.length d12, .int .i64 X.1] 29) := ⟨_, rfl⟩
  have hb14 : Below w14.heap.size w14 W14 := by rw [hW14]; exact nbel_alloc _ _
  have R12 : Hid (W14.rowIs w14.heap.size 29 4 (rowN (toL R a12 X.2.1.length k12 p12 X.2.2.length d12 X.1))) := by show World.rowIs _ _ _ _ _; rw [hW14]; exact rowN_alloc w14 _ _
  have O12 := Lib.hid (ho12.keep (fun k _ hk => hb14.block k hk))
  have LS8 : Hid (Ls w.heap.size w3.heap.size g7 w4.heap.size w5.heap.size 29 4 (rowN [.int .i64 r, .slice a l.length k]) (rowN (toL R a6 X.2.1.length k6 p6 X.2.2.length d6 X.1)) (rowN [.int .i64 r, .slice (some ⟨g7, 0, none⟩) l.length l.length]) (rowN (toL R a8 X.2.1.length k8 p8 X.2.2.length d8 X.1)) l.length (mk1 1) (TwL (w.heap.size + 1) w3.heap.size a6 X.2.1.length k6 (Tb.fl X.2.1) p6 X.2.2.length d6 (Tb.fl X.2.2)) (TwL (g9 + 1) w5.heap.size a8 X.2.1.length k8 (mk1 1) p8 X.2.2.length d8 (mk1 (1 + X.2.1.length * 3))) w W14) := (LS7b.out.same TwL.stab (TwL.stab2 O9.out) hb).same TwL.stab (TwL.stab2 O9.out) hb14
  have HW14 := Lib.hid hW14
  clear hb hb14 hW14 ho12 LS7b HK13b HK14 HG7
  obtain ⟨⟨y0, y1, y2, y3⟩, _⟩ := rowN4 R12.out
  obtain ⟨⟨u0, u1, u2, u3⟩, _⟩ := rowN4 LS8.out.r6
  rw [HW14.out] at y0 y1 y2 y3 u0 u1 u2 u3
  go_wp2_with fail
  rw [← HW14.out]
  clear HW14
  clear y0 y1 y2 y3 u0 u1 u2 u3
  refine (eqTubeOut_same R a12 a6 p12 p6 X.2.1.length k12 k6 X.2.2.length d12 d6 X.1 (Tb.fl X.2.1) (Tb.fl X.2.2) _ O12.out.x.at_ LS8.out.t6.x.at_ O12.out.y.at_ LS8.out.t6.y.at_ HL1.out HL2.out).mono ?_
  rintro e w15 ⟨rfl, hb⟩
  have LS9 : Hid (Ls w.heap.size w3.heap.size g7 w4.heap.size w5.heap.size 29 4 (rowN [.int .i64 r, .slice a l.length k]) (rowN (toL R a6 X.2.1.length k6 p6 X.2.2.length d6 X.1)) (rowN [.int .i64 r, .slice (some ⟨g7, 0, none⟩) l.length l.length]) (rowN (toL R a8 X.2.1.length k8 p8 X.2.2.length d8 X.1)) l.length (mk1 1) (TwL (w.heap.size + 1) w3.heap.size a6 X.2.1.length k6 (Tb.fl X.2.1) p6 X.2.2.length d6 (Tb.fl X.2.2)) (TwL (g9 + 1) w5.heap.size a8 X.2.1.length k8 (mk1 1) p8 X.2.2.length d8 (mk1 (1 + X.2.1.length * 3))) w w15) := LS8.out.same TwL.stab (TwL.stab2 O9.out) hb
  clear hb LS8 R12 O12
  obtain ⟨⟨y0, y1, y2, y3⟩, _⟩ := rowN4 LS9.out.r8
  go_wp2_with fail
  refine (heldTubeOut_any (g9 + 1) w5.heap.size R a8 X.2.1.length k8 p8 X.2.2.length d8 X.1 _ LS9.out.t8 HL1.out HL2.out).mono ?_
  rintro e w16 ⟨rfl, hb⟩
  rw [← HM.out]
  have HBE : Hid (Below w.heap.size w w16) := LS9.out.bel.trans (hb.mono LS9.out.bel.size)
  clear hb LS9 y0 y1 y2 y3
  go_wp2_with fail
  go_ret
  exact ⟨rfl, HBE.out⟩
end Go.Proofs.YtjmnehlgefpheaaDoor
