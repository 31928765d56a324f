/-
  The law FnExactDistrictBook.
-/
import Derived.Test.YtdpghhmcibiplaaDoorLkD4
namespace Go.Proofs.YtdpghhmcibiplaaDoor
open Go.RowKit Go.Deep

structure DiIn (a b c : Option Addr) (d : Di.D) (w : World) : Prop where
  a : IsIn a d.n d.f w
  b : IsIn b d.m d.g w
  c : IsIn c d.q d.h w
theorem DiIn.below {a b c : Option Addr} {d : Di.D} {w w' : World} (h : DiIn a b c d w) (hb : Below w.heap.size w w') : DiIn a b c d w' := ⟨h.a.below hb, h.b.below hb, h.c.below hb⟩
structure DiBlk (g1 g2 g3 : Nat) (d : Di.D) (w : World) : Prop where
  a : IsBlk 2 g1 d.n d.f w
  b : IsBlk 2 g2 d.m d.g w
  c : IsBlk 2 g3 d.q d.h w
theorem DiBlk.below {g1 g2 g3 : Nat} {d : Di.D} {w w' : World} (h : DiBlk g1 g2 g3 d w) (hb : Below w.heap.size w w') : DiBlk g1 g2 g3 d w' := ⟨h.a.below hb, h.b.below hb, h.c.below hb⟩
theorem DiBlk.at_ {g1 g2 g3 : Nat} {d : Di.D} {w : World} (h : DiBlk g1 g2 g3 d w) : DiAt (some ⟨g1, 0, none⟩) (some ⟨g2, 0, none⟩) (some ⟨g3, 0, none⟩) d w := ⟨h.a.at_, h.b.at_, h.c.at_⟩
/-- No list is too long. -/
def DiSm (d : Di.D) : Prop := d.n ≤ 1048576 ∧ d.m ≤ 1048576 ∧ d.q ≤ 1048576
def SzDi (d : Di.D) (e : Ending) : Prop := ∃ z : Int, e = .returned (.int .i64 z) ∧ (z < 0 ∨ (¬ z < 0 ∧ DiSm d))

set_option maxRecDepth 100000 in
set_option maxHeartbeats 4000000 in
theorem szDi_any (a : Option Addr) (ka : Nat) (b : Option Addr) (kb : Nat) (c : Option Addr) (kc : Nat) (d : Di.D) (w : World) (v1 : d.n ≤ 9223372036854775807) (v2 : d.m ≤ 9223372036854775807) (v3 : d.q ≤ 9223372036854775807) :
    Calls Tryd.prog 50 #[diV a d.n ka b d.m kb c d.q kc, .int .i64 1048576] w fun e w' => SzDi d e ∧ Below w.heap.size w w' := by
  obtain ⟨W, hW⟩ : ∃ W, W = w.alloc (.cells #[.slice a d.n ka, .slice b d.m kb, .slice c d.q kc] 80) := ⟨_, rfl⟩
  have HB : Hid (Below w.heap.size w W) := by show Below _ _ _; rw [hW]; exact nbel_alloc _ _
  have HR : Hid (W.rowIs w.heap.size 80 3 (rowN (diL a d.n ka b d.m kb c d.q kc))) := by show World.rowIs _ _ _ _ _; rw [hW]; exact rowN_alloc w (diL a d.n ka b d.m kb c d.q kc) _
  have HW := Lib.hid hW
  clear hW
  go_enter Tryd.func50, Tryd.ntmps50
  go_upto_region 1 with fail
  rw [← HW.out]
  clear HW
  obtain ⟨⟨r0, r1, r2⟩, _, _, _⟩ := rowN3 HR.out
  go_wp2_with fail
  by_cases h1 : d.n ≤ 1048576
  rotate_left
  · refine (nszInt64_over a d.n ka 1048576 _ (by omega) (by omega) v1).mono ?_
    rintro e w1 ⟨rfl, hww⟩
    subst hww
    go_wp2_with fail
    go_ret
    exact ⟨⟨-1, rfl, Or.inl (by decide)⟩, HB.out⟩
  refine (nszInt64_in a d.n ka 1048576 _ h1 (by omega)).mono ?_
  rintro e w1 ⟨rfl, hww⟩
  subst hww
  obtain ⟨l1, hl1⟩ : ∃ l, l = 1048576 - d.n := ⟨_, rfl⟩
  rw [← hl1]
  have q1 : ¬ ((l1 : Nat) : Int) < 0 := by omega
  have HL1 : Hid (l1 ≤ 1048576) := by show _ ≤ _; omega
  clear hl1
  go_wp2_with fail
  by_cases h2 : d.m ≤ l1
  rotate_left
  · refine (nszInt64_over b d.m kb l1 _ (by omega) HL1.out v2).mono ?_
    rintro e w2 ⟨rfl, hww⟩
    subst hww
    go_wp2_with fail
    go_ret
    exact ⟨⟨-1, rfl, Or.inl (by decide)⟩, HB.out⟩
  refine (nszInt64_in b d.m kb l1 _ h2 HL1.out).mono ?_
  rintro e w2 ⟨rfl, hww⟩
  subst hww
  have HM : Hid (d.m ≤ 1048576) := Nat.le_trans h2 HL1.out
  obtain ⟨l2, hl2⟩ : ∃ l, l = l1 - d.m := ⟨_, rfl⟩
  rw [← hl2]
  have q2 : ¬ ((l2 : Nat) : Int) < 0 := by omega
  have HL2 : Hid (l2 ≤ 1048576) := by show _ ≤ _; have := HL1.out; omega
  clear hl2
  go_wp2_with fail
  by_cases h3 : d.q ≤ l2
  rotate_left
  · refine (nszInt64_over c d.q kc l2 _ (by omega) HL2.out v3).mono ?_
    rintro e w3 ⟨rfl, hww⟩
    subst hww
    go_wp2_with fail
    go_ret
    exact ⟨⟨-1, rfl, Or.inl (by decide)⟩, HB.out⟩
  refine (nszInt64_in c d.q kc l2 _ h3 HL2.out).mono ?_
  rintro e w3 ⟨rfl, hww⟩
  subst hww
  have HQ : Hid (d.q ≤ 1048576) := Nat.le_trans h3 HL2.out
  obtain ⟨l3, hl3⟩ : ∃ l, l = l2 - d.q := ⟨_, rfl⟩
  rw [← hl3]
  have q3 : ¬ ((l3 : Nat) : Int) < 0 := by omega
  clear hl3
  go_wp2_with fail
  go_ret
  exact ⟨⟨l3, rfl, Or.inr ⟨by omega, h1, HM.out, HQ.out⟩⟩, HB.out⟩

theorem dhs (w : World) (p g : Nat) (hp : g ≠ p) (i : Nat) (a : Value) : (w.setCell ⟨p, i, none⟩ a).heap[g]? = w.heap[g]? := Below.heap_setCell _ _ _ _ hp
/-- What lies there while a district is taken over. -/
structure TD (w : World) (A X : List Value) (W : World) : Prop where
  ra : W.rowIs w.heap.size 80 3 (rowN A)
  ro : W.rowIs (w.heap.size + 1) 85 3 (rowN (diL none 0 0 none 0 0 none 0 0))
  rx : W.rowIs (w.heap.size + 2) 85 3 (rowN X)
  old : Below w.heap.size w W
theorem TD.below {w : World} {A X : List Value} {W W' : World} (h : TD w A X W) (hb : Below W.heap.size W W') : TD w A X W' :=
  ⟨nrow_below h.ra hb, nrow_below h.ro hb, nrow_below h.rx hb, h.old.trans (hb.mono h.old.size)⟩
theorem TD.put {w : World} {A X : List Value} {W : World} (h : TD w A X W) (i : Nat) (hi : i < X.length) (v : Value) : TD w A (X.set i v) (W.setCell ⟨w.heap.size + 2, i, none⟩ v) :=
  ⟨h.ra.of_block (dhs _ _ _ (by omega) _ _), h.ro.of_block (dhs _ _ _ (by omega) _ _), rowN_put h.rx i v hi, h.old.setCell (p := ⟨w.heap.size + 2, i, none⟩) (by show _ ≤ w.heap.size + 2; omega) v⟩
set_option maxRecDepth 100000 in
set_option maxHeartbeats 4000000 in
theorem toDi_any (a : Option Addr) (ka : Nat) (b : Option Addr) (kb : Nat) (c : Option Addr) (kc : Nat) (d : Di.D) (w : World) (h : DiIn a b c d w) (hs : DiSm d) :
    Calls Tryd.prog 52 #[diV a d.n ka b d.m kb c d.q kc] w fun e w' => (∃ g1 g2 g3, e = .returned (diV (some ⟨g1, 0, none⟩) d.n d.n (some ⟨g2, 0, none⟩) d.m d.m (some ⟨g3, 0, none⟩) d.q d.q) ∧ DiBlk g1 g2 g3 d w') ∧ Below w.heap.size w w' := by
  obtain ⟨W, hW⟩ : ∃ W, W = ((w.alloc (.cells #[.slice a d.n ka, .slice b d.m kb, .slice c d.q kc] 80)).alloc (.cells #[.slice none 0 0, .slice none 0 0, .slice none 0 0] 85)).alloc (.cells #[.slice none 0 0, .slice none 0 0, .slice none 0 0] 85) := ⟨_, rfl⟩
  have HT : Hid (TD w (diL a d.n ka b d.m kb c d.q kc) (diL none 0 0 none 0 0 none 0 0) W) := by
    show TD _ _ _ _
    rw [hW]
    exact ⟨nrow_below (nrow_below (rowN_alloc w (diL a d.n ka b d.m kb c d.q kc) _) (nbel_alloc _ _)) (nbel_alloc _ _), nrow_below (rowN_alloc' (by simp) (diL none 0 0 none 0 0 none 0 0) _) (nbel_alloc _ _), rowN_alloc' (by simp) (diL none 0 0 none 0 0 none 0 0) _, ((nbel_alloc _ _).alloc (by simp) _).alloc (by simp; omega) _⟩
  have HW := Lib.hid hW
  have H := Lib.hid h
  obtain ⟨s1, s2, s3⟩ := hs
  clear hW h
  go_enter Tryd.func52, Tryd.ntmps52
  go_upto_region 2 with fail
  rw [← HW.out]
  clear HW
  obtain ⟨⟨r0, r1, r2⟩, _, _, _⟩ := rowN3 HT.out.ra
  go_wp2_with fail
  clear r0 r1 r2
  refine (ntoInt64S_any a d.n ka d.f _ (H.out.below HT.out.old).a s1).mono ?_
  rintro e w1 ⟨⟨rfl, hk⟩, hb⟩
  have hlt : w.heap.size + 2 < W.heap.size := HT.out.rx.lt
  obtain ⟨g1, hg1⟩ : ∃ g, g = W.heap.size := ⟨_, rfl⟩
  rw [← hg1] at hk hlt ⊢
  have HG1 : Hid (g1 ≠ w.heap.size + 2) := by show _ ≠ _; omega
  have HK1 := Lib.hid hk
  replace HT := Lib.hid (HT.out.below hb)
  have HH1 : Hid (w.heap.size + 2 < g1) := hlt
  clear hk hb hlt hg1
  obtain ⟨⟨r0, r1, r2⟩, _, _, _⟩ := rowN3 HT.out.ra
  obtain ⟨⟨x0, x1, x2⟩, y0, y1, y2⟩ := rowN3 HT.out.rx
  have l0 := HT.out.rx.lt
  obtain ⟨W1, hW1⟩ : ∃ W', W' = w1.setCell ⟨w.heap.size + 2, 0, none⟩ (.slice (some ⟨g1, 0, none⟩) d.n d.n) := ⟨_, rfl⟩
  have HT1 : Hid (TD w (diL a d.n ka b d.m kb c d.q kc) (diL (some ⟨g1, 0, none⟩) d.n d.n none 0 0 none 0 0) W1) := by show TD _ _ _ _; rw [hW1]; exact HT.out.put 0 (by simp) _
  replace HK1 : Hid (IsBlk 2 g1 d.n d.f W1) := by show IsBlk _ _ _ _ _; rw [hW1]; exact HK1.out.block (dhs _ _ _ HG1.out _ _)
  have HW := Lib.hid hW1
  clear hW1
  go_wp2_with fail
  rw [← HW.out]
  clear HW r0 r1 r2 x0 x1 x2 y0 y1 y2 l0 HT
  have HT := HT1
  clear HT1
  refine (ntoInt64S_any b d.m kb d.g _ (H.out.below HT.out.old).b s2).mono ?_
  rintro e w2 ⟨⟨rfl, hk⟩, hb⟩
  have hlt : w.heap.size + 2 < W1.heap.size := HT.out.rx.lt
  obtain ⟨g2, hg2⟩ : ∃ g, g = W1.heap.size := ⟨_, rfl⟩
  rw [← hg2] at hk hlt ⊢
  have HG2 : Hid (g2 ≠ w.heap.size + 2) := by show _ ≠ _; omega
  have HK2 := Lib.hid hk
  replace HK1 := Lib.hid (HK1.out.below hb)
  replace HT := Lib.hid (HT.out.below hb)
  have HH2 : Hid (w.heap.size + 2 < g2) := hlt
  clear hk hb hlt hg2
  obtain ⟨⟨r0, r1, r2⟩, _, _, _⟩ := rowN3 HT.out.ra
  obtain ⟨⟨x0, x1, x2⟩, y0, y1, y2⟩ := rowN3 HT.out.rx
  have l0 := HT.out.rx.lt
  obtain ⟨W2, hW2⟩ : ∃ W', W' = w2.setCell ⟨w.heap.size + 2, 1, none⟩ (.slice (some ⟨g2, 0, none⟩) d.m d.m) := ⟨_, rfl⟩
  have HT2 : Hid (TD w (diL a d.n ka b d.m kb c d.q kc) (diL (some ⟨g1, 0, none⟩) d.n d.n (some ⟨g2, 0, none⟩) d.m d.m none 0 0) W2) := by show TD _ _ _ _; rw [hW2]; exact HT.out.put 1 (by simp) _
  replace HK1 : Hid (IsBlk 2 g1 d.n d.f W2) := by show IsBlk _ _ _ _ _; rw [hW2]; exact HK1.out.block (dhs _ _ _ HG1.out _ _)
  replace HK2 : Hid (IsBlk 2 g2 d.m d.g W2) := by show IsBlk _ _ _ _ _; rw [hW2]; exact HK2.out.block (dhs _ _ _ HG2.out _ _)
  have HW := Lib.hid hW2
  clear hW2
  go_wp2_with fail
  rw [← HW.out]
  clear HW r0 r1 r2 x0 x1 x2 y0 y1 y2 l0 HT
  have HT := HT2
  clear HT2
  refine (ntoInt64S_any c d.q kc d.h _ (H.out.below HT.out.old).c s3).mono ?_
  rintro e w3 ⟨⟨rfl, hk⟩, hb⟩
  have hlt : w.heap.size + 2 < W2.heap.size := HT.out.rx.lt
  obtain ⟨g3, hg3⟩ : ∃ g, g = W2.heap.size := ⟨_, rfl⟩
  rw [← hg3] at hk hlt ⊢
  have HG3 : Hid (g3 ≠ w.heap.size + 2) := by show _ ≠ _; omega
  have HK3 := Lib.hid hk
  replace HK1 := Lib.hid (HK1.out.below hb)
  replace HK2 := Lib.hid (HK2.out.below hb)
  replace HT := Lib.hid (HT.out.below hb)
  have HH3 : Hid (w.heap.size + 2 < g3) := hlt
  clear hk hb hlt hg3
  obtain ⟨⟨r0, r1, r2⟩, _, _, _⟩ := rowN3 HT.out.ra
  obtain ⟨⟨x0, x1, x2⟩, y0, y1, y2⟩ := rowN3 HT.out.rx
  have l0 := HT.out.rx.lt
  obtain ⟨W3, hW3⟩ : ∃ W', W' = w3.setCell ⟨w.heap.size + 2, 2, none⟩ (.slice (some ⟨g3, 0, none⟩) d.q d.q) := ⟨_, rfl⟩
  have HT3 : Hid (TD w (diL a d.n ka b d.m kb c d.q kc) (diL (some ⟨g1, 0, none⟩) d.n d.n (some ⟨g2, 0, none⟩) d.m d.m (some ⟨g3, 0, none⟩) d.q d.q) W3) := by show TD _ _ _ _; rw [hW3]; exact HT.out.put 2 (by simp) _
  replace HK1 : Hid (IsBlk 2 g1 d.n d.f W3) := by show IsBlk _ _ _ _ _; rw [hW3]; exact HK1.out.block (dhs _ _ _ HG1.out _ _)
  replace HK2 : Hid (IsBlk 2 g2 d.m d.g W3) := by show IsBlk _ _ _ _ _; rw [hW3]; exact HK2.out.block (dhs _ _ _ HG2.out _ _)
  replace HK3 : Hid (IsBlk 2 g3 d.q d.h W3) := by show IsBlk _ _ _ _ _; rw [hW3]; exact HK3.out.block (dhs _ _ _ HG3.out _ _)
  have HW := Lib.hid hW3
  clear hW3
  obtain ⟨⟨q0, q1, q2⟩, _, _, _⟩ := rowN3 HT3.out.rx
  obtain ⟨⟨o0, o1, o2⟩, p0, p1, p2⟩ := rowN3 HT3.out.ro
  have lo := HT3.out.ro.lt
  have lx := HT3.out.rx.lt
  have HGO1 : Hid (w.heap.size + 1 < g1) := by show _ < _; have := HH1.out; omega
  have HGO2 : Hid (w.heap.size + 1 < g2) := by show _ < _; have := HH2.out; omega
  have HGO3 : Hid (w.heap.size + 1 < g3) := by show _ < _; have := HH3.out; omega
  go_upto_region 5 with fail
  rw [← HW.out]
  clear HW r0 r1 r2 x0 x1 x2 y0 y1 y2 l0 HT
  go_wp2_with fail
  have hbk : ∀ g, w.heap.size + 1 < g → ∀ (v0 v1 v2 : Value), (((W3.setCell ⟨w.heap.size + 1, 0, none⟩ v0).setCell ⟨w.heap.size + 1, 1, none⟩ v1).setCell ⟨w.heap.size + 1, 2, none⟩ v2).heap[g]? = W3.heap[g]? := fun g hg v0 v1 v2 => by
    rw [dhs _ _ _ (by omega) _ _, dhs _ _ _ (by omega) _ _, dhs _ _ _ (by omega) _ _]
  exact bodyPost_ret (v := diV (some ⟨g1, 0, none⟩) d.n d.n (some ⟨g2, 0, none⟩) d.m d.m (some ⟨g3, 0, none⟩) d.q d.q) (by simp [results, Tryd.results52, go_sem, o0, o1, o2]) rfl ⟨⟨g1, g2, g3, rfl, HK1.out.block (hbk _ HGO1.out _ _ _), HK2.out.block (hbk _ HGO2.out _ _ _), HK3.out.block (hbk _ HGO3.out _ _ _)⟩, nbelow_set3 HT3.out.old (by omega) _ _ _⟩

set_option maxHeartbeats 2000000 in
theorem eqDo_same (x y z : Int) (w : World) :
    Calls Tryd.prog 54 #[doV x y z, doV x y z] w fun e w' => e = .returned (.bool true) ∧ Below w.heap.size w w' := by
  have h1 : (x != x) = false := by simp
  have h2 : (y != y) = false := by simp
  have h3 : (z != z) = false := by simp
  go_enter Tryd.func54, Tryd.ntmps54
  go_wp2_with fail
  go_ret
  exact ⟨rfl, (nbel_alloc _ _).alloc (by simp) _⟩
set_option maxRecDepth 100000 in
set_option maxHeartbeats 4000000 in
theorem eqDi_same (a : Option Addr) (ka : Nat) (b : Option Addr) (kb : Nat) (c : Option Addr) (kc : Nat) (a' : Option Addr) (ka' : Nat) (b' : Option Addr) (kb' : Nat) (c' : Option Addr) (kc' : Nat) (d : Di.D) (w : World) (h : DiAt a b c d w) (h' : DiAt a' b' c' d w) (hs : DiSm d) :
    Calls Tryd.prog 55 #[diV a d.n ka b d.m kb c d.q kc, diV a' d.n ka' b' d.m kb' c' d.q kc'] w fun e w' => e = .returned (.bool true) ∧ Below w.heap.size w w' := by
  obtain ⟨W, hW⟩ : ∃ W, W = (w.alloc (.cells #[.slice a d.n ka, .slice b d.m kb, .slice c d.q kc] 85)).alloc (.cells #[.slice a' d.n ka', .slice b' d.m kb', .slice c' d.q kc'] 85) := ⟨_, rfl⟩
  have HB : Hid (Below w.heap.size w W) := by show Below _ _ _; rw [hW]; exact (nbel_alloc _ _).alloc (by simp) _
  have HR : Hid (W.rowIs w.heap.size 85 3 (rowN (diL a d.n ka b d.m kb c d.q kc))) := by show World.rowIs _ _ _ _ _; rw [hW]; exact nrow_below (rowN_alloc w (diL a d.n ka b d.m kb c d.q kc) _) (nbel_alloc _ _)
  have HQ : Hid (W.rowIs (w.heap.size + 1) 85 3 (rowN (diL a' d.n ka' b' d.m kb' c' d.q kc'))) := by show World.rowIs _ _ _ _ _; rw [hW]; exact rowN_alloc' (by simp) (diL a' d.n ka' b' d.m kb' c' d.q kc') _
  have HW := Lib.hid hW
  have H := Lib.hid h
  have H' := Lib.hid h'
  obtain ⟨s1, s2, s3⟩ := hs
  clear hW h h'
  go_enter Tryd.func55, Tryd.ntmps55
  go_upto_region 1 with fail
  rw [← HW.out]
  clear HW
  obtain ⟨⟨r0, r1, r2⟩, _, _, _⟩ := rowN3 HR.out
  obtain ⟨⟨q0, q1, q2⟩, _, _, _⟩ := rowN3 HQ.out
  go_wp2_with fail
  refine (neqInt64S_same a a' d.n ka ka' d.f _ (H.out.below HB.out).a (H'.out.below HB.out).a s1).mono ?_
  rintro e w1 ⟨rfl, hb⟩
  replace HR := Lib.hid (nrow_below HR.out hb)
  replace HQ := Lib.hid (nrow_below HQ.out hb)
  replace HB : Hid (Below w.heap.size w w1) := HB.out.trans (hb.mono HB.out.size)
  clear hb r0 r1 r2 q0 q1 q2
  obtain ⟨⟨r0, r1, r2⟩, _, _, _⟩ := rowN3 HR.out
  obtain ⟨⟨q0, q1, q2⟩, _, _, _⟩ := rowN3 HQ.out
  go_wp2_with fail
  refine (neqInt64S_same b b' d.m kb kb' d.g _ (H.out.below HB.out).b (H'.out.below HB.out).b s2).mono ?_
  rintro e w2 ⟨rfl, hb⟩
  replace HR := Lib.hid (nrow_below HR.out hb)
  replace HQ := Lib.hid (nrow_below HQ.out hb)
  replace HB : Hid (Below w.heap.size w w2) := HB.out.trans (hb.mono HB.out.size)
  clear hb r0 r1 r2 q0 q1 q2
  obtain ⟨⟨r0, r1, r2⟩, _, _, _⟩ := rowN3 HR.out
  obtain ⟨⟨q0, q1, q2⟩, _, _, _⟩ := rowN3 HQ.out
  go_wp2_with fail
  refine (neqInt64S_same c c' d.q kc kc' d.h _ (H.out.below HB.out).c (H'.out.below HB.out).c s3).mono ?_
  rintro e w3 ⟨rfl, hb⟩
  replace HB : Hid (Below w.heap.size w w3) := HB.out.trans (hb.mono HB.out.size)
  clear hb r0 r1 r2 q0 q1 q2
  go_wp2_with fail
  go_ret
  exact ⟨rfl, HB.out⟩
end Go.Proofs.YtdpghhmcibiplaaDoor
