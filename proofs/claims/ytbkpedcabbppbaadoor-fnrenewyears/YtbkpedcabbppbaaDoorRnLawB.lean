/-
  The laws FnExactRenewBest and FnExactRenewOf.
-/
import Derived.Test.YtbkpedcabbppbaaDoorRnQ2
import Derived.Test.YtbkpedcabbppbaaDoorRnEx
namespace Go.Proofs.YtbkpedcabbppbaaDoor
open Go.RowKit Go.Deep

theorem Rn.of_le (n : Nat) (f : Nat → Int) (z : Int) (m : Nat) (p : Nat → Int) : (Rn.of_ n f z m p).m ≤ 400 := by
  by_cases h : 400 < n ∨ 400 < m
  · rw [Rn.of_big h]; exact Nat.zero_le _
  · by_cases h2 : Rn.Right n f ∧ Rn.BudOk z ∧ Pl.Rising m p n
    · by_cases h3 : z < Rn.sm f 0 p m
      · rw [Rn.of_short h h2 h3]; exact Nat.zero_le _
      · rw [Rn.of_ok h h2 h3]; show m ≤ 400; omega
    · rw [Rn.of_form h h2]; exact Nat.zero_le _
theorem Rn.bs_le (n : Nat) (f : Nat → Int) (z : Int) : (Rn.bs n f z).m ≤ 400 := by
  by_cases h : 400 < n
  · rw [Rn.bs_big h]; exact Nat.zero_le _
  · by_cases h2 : Rn.Right n f ∧ Rn.BudOk z
    · rw [← Rn.of_bs h2.1 h2.2]; exact Rn.of_le _ _ _ _ _
    · rw [Rn.bs_form h h2]; exact Nat.zero_le _
/-- What is told, in a block of its own. -/
def RoR (g : Nat) (o : Rn.Out) (a : Option Addr) (k : Nat) (W : World) : Prop := W.rowIs g 26 4 (rowN [.slice a o.m k, .int .i64 o.cs, .int .i64 o.wo, .int .i64 o.cd])
theorem RoR.below {g : Nat} {o : Rn.Out} {a : Option Addr} {k : Nat} {W W' : World} (h : RoR g o a k W) (hb : Below W.heap.size W W') : RoR g o a k W' := nrow_below h hb
theorem RoR.lt {g : Nat} {o : Rn.Out} {a : Option Addr} {k : Nat} {W : World} (h : RoR g o a k W) : g < W.heap.size := World.rowIs.lt h
theorem RoR.blk {g : Nat} {o : Rn.Out} {a : Option Addr} {k : Nat} {W W' : World} (h : RoR g o a k W) (e : W'.heap[g]? = W.heap[g]?) : RoR g o a k W' := World.rowIs.of_block h e
theorem RoR.only {g x : Nat} {o : Rn.Out} {a : Option Addr} {k : Nat} {t : TypeId} {W W' : World} (h : RoR g o a k W) (ho : Only x W W') (hx : ∃ cur, W.heap[x]? = some (.cells cur t (0, 0))) (ht : t ≠ 26 := by decide) : RoR g o a k W' := by
  refine RoR.blk h (ho.block g (RoR.lt h) ?_)
  obtain ⟨cur, q, _⟩ := h
  exact typ_ne ⟨cur, q⟩ hx (fun e => ht e.symm)
theorem lsown_keep {B m : Nat} {a : Option Addr} {k : Nat} {p : Nat → Int} {W W' : World} (h : LsOwn 2 1 B m a k p W) (hk : ∀ q, a = some ⟨q, 0, none⟩ → W'.heap[q]? = W.heap[q]?) : LsOwn 2 1 B m a k p W' := by
  rcases h with h | ⟨g, e, h1, h2⟩
  · exact Or.inl h
  · exact Or.inr ⟨g, e, h1, h2.block (hk g e)⟩
set_option maxRecDepth 100000 in
set_option maxHeartbeats 8000000 in
theorem renewBest_law (w : World) (a : Option Addr) (n k : Nat) (f : Nat → Int) (h : IsIn a (n * 2) f w) (hn9 : n ≤ 9223372036854775807) (z : Int) (hg : Et w) :
    Calls Tryd.prog 3 #[.slice a n k, .int .i64 z] w fun e w' => e = .returned (.bool true) ∧ Below w.heap.size w w' := by
  by_cases hn : n ≤ 1048576
  case neg =>
    clear h
    go_enter Tryd.func3, Tryd.ntmps3
    go_wp2_with fail
    refine (nszAsset_over a n k 1048576 _ (by omega) (by omega) hn9).mono ?_
    rintro e w1 ⟨rfl, rfl⟩
    go_wp2_with fail
    go_ret
    exact ⟨rfl, Below.refl _ _⟩
  have H := Lib.hid h
  have HET := Lib.hid hg
  have HB : Hid (Below w.heap.size w w) := Below.refl _ _
  obtain ⟨O, hO⟩ : ∃ O, O = Rn.bs n f z := ⟨_, rfl⟩
  have hOm : O.m ≤ 1048576 := by rw [hO]; exact Nat.le_trans (Rn.bs_le n f z) (by omega)
  have SP : Hid (∀ g V, IsBlk 53 g (n * 2) f V → Calls Tryd.prog 8 #[.slice (some ⟨g, 0, none⟩) n n, .int .i64 z] V fun e w' => RoEnd V.heap.size O e w' ∧ Below V.heap.size V w') := fun g V q => by
    rw [hO]; exact specBest_any _ n n f z V q.at_ hn
  have IM : Hid (∀ g V, IsBlk 53 g (n * 2) f V → Et V → Calls Tryd.prog 10 #[.slice (some ⟨g, 0, none⟩) n n, .int .i64 z] V fun e w' => RoEnd V.heap.size O e w' ∧ Below V.heap.size V w') := fun g V q t => by
    rw [hO]; exact implBest_any _ n n f z V q.at_ hn t
  clear h hn9 hg hO
  go_enter Tryd.func3, Tryd.ntmps3
  go_wp2_with fail
  refine (nszAsset_in a n k 1048576 _ hn (by omega)).mono ?_
  rintro e w1 ⟨rfl, hw⟩
  subst w1
  obtain ⟨left, hleft⟩ : ∃ left : Nat, left = 1048576 - n := ⟨_, rfl⟩
  rw [← hleft]
  have hleftz : ¬ (left : Int) < 0 := by omega
  clear hleft
  go_wp2_with fail
  refine (ntoAssetS_any a n k f _ (H.out.below HB.out) hn).mono ?_
  rintro e w2 ⟨⟨rfl, hx⟩, hb⟩
  replace HB : Hid (Below w.heap.size w w2) := HB.out.trans (hb.mono HB.out.size)
  have HX := Lib.hid hx
  clear hb
  clear hx
  go_wp2_with fail
  refine (SP.out _ _ HX.out).mono ?_
  rintro e w3 ⟨⟨a0, k0, rfl, hp⟩, hb⟩
  replace HB : Hid (Below w.heap.size w w3) := HB.out.trans (hb.mono HB.out.size)
  clear HX
  have P0 := Lib.hid hp
  clear hb
  clear hp
  have LT0 : Hid (∀ q, a0 = some ⟨q, 0, none⟩ → q < w3.heap.size) := fun q e => (P0.out.lt e).2
  have LO : Hid (w.heap.size ≤ w3.heap.size) := HB.out.size
  go_upto_region 6 with fail
  obtain ⟨V3, hV3⟩ : ∃ V, V = w3.alloc (.cells #[.slice a0 O.m k0, .int .i64 O.cs, .int .i64 O.wo, .int .i64 O.cd] 26) := ⟨_, rfl⟩
  have hb : Below w3.heap.size w3 V3 := by rw [hV3]; exact nbel_alloc _ _
  have R0 : Hid (RoR w3.heap.size O a0 k0 V3) := by show World.rowIs _ _ _ _ _; rw [hV3]; exact rowN_alloc _ _ _
  rw [← hV3]
  replace HB : Hid (Below w.heap.size w V3) := HB.out.trans (hb.mono HB.out.size)
  clear hV3
  replace P0 := Lib.hid (P0.out.below hb)
  clear hb
  have S3 : Hid (w3.heap.size < V3.heap.size) := R0.out.lt
  go_wp2_with fail
  refine (ntoAssetS_any a n k f _ (H.out.below HB.out) hn).mono ?_
  rintro e w4 ⟨⟨rfl, hx⟩, hb⟩
  replace HB : Hid (Below w.heap.size w w4) := HB.out.trans (hb.mono HB.out.size)
  replace P0 := Lib.hid (P0.out.below hb)
  replace R0 := Lib.hid (RoR.below R0.out hb)
  have HX := Lib.hid hx
  clear hb
  clear hx
  have S4 : Hid (V3.heap.size < w4.heap.size) := HX.out.lt
  go_wp2_with fail
  refine (IM.out _ _ HX.out (HET.out.below HB.out)).mono ?_
  rintro e w5 ⟨⟨a1, k1, rfl, hp⟩, hb⟩
  have LE5 : Hid (w4.heap.size ≤ w5.heap.size) := hb.size
  replace HB : Hid (Below w.heap.size w w5) := HB.out.trans (hb.mono HB.out.size)
  replace P0 := Lib.hid (P0.out.below hb)
  replace HX := Lib.hid (HX.out.below hb)
  replace R0 := Lib.hid (RoR.below R0.out hb)
  have P1 := Lib.hid hp
  clear hb
  clear hp
  go_upto_region 8 with fail
  obtain ⟨V5, hV5⟩ : ∃ V, V = w5.alloc (.cells #[.slice a1 O.m k1, .int .i64 O.cs, .int .i64 O.wo, .int .i64 O.cd] 26) := ⟨_, rfl⟩
  have hb : Below w5.heap.size w5 V5 := by rw [hV5]; exact nbel_alloc _ _
  have R1 : Hid (RoR w5.heap.size O a1 k1 V5) := by show World.rowIs _ _ _ _ _; rw [hV5]; exact rowN_alloc _ _ _
  rw [← hV5]
  replace HB : Hid (Below w.heap.size w V5) := HB.out.trans (hb.mono HB.out.size)
  clear hV5
  replace P0 := Lib.hid (P0.out.below hb)
  replace HX := Lib.hid (HX.out.below hb)
  replace P1 := Lib.hid (P1.out.below hb)
  replace R0 := Lib.hid (RoR.below R0.out hb)
  clear hb
  obtain ⟨⟨p0, p1, p2, p3⟩, _⟩ := rowN4 R1.out
  obtain ⟨⟨q0, q1, q2, q3⟩, _⟩ := rowN4 R0.out
  go_wp2_with fail
  refine (eqRenewOut_same O.cs O.wo O.cd O.m O.L a1 a0 k1 k0 _ (by have q := P1.out.at_; rw [Nat.mul_one] at q; exact q) (by have q := P0.out.at_; rw [Nat.mul_one] at q; exact q) hOm).mono ?_
  rintro e w6 ⟨rfl, hb⟩
  clear p0 p1 p2 p3 q0 q1 q2 q3
  replace HB : Hid (Below w.heap.size w w6) := HB.out.trans (hb.mono HB.out.size)
  replace P0 := Lib.hid (P0.out.below hb)
  replace HX := Lib.hid (HX.out.below hb)
  replace P1 := Lib.hid (P1.out.below hb)
  replace R0 := Lib.hid (RoR.below R0.out hb)
  replace R1 := Lib.hid (RoR.below R1.out hb)
  clear hb
  go_wp2_with fail
  refine (ntoAssetS_any a n k f _ (H.out.below HB.out) hn).mono ?_
  rintro e w7 ⟨⟨rfl, hx⟩, hb⟩
  replace HB : Hid (Below w.heap.size w w7) := HB.out.trans (hb.mono HB.out.size)
  replace P0 := Lib.hid (P0.out.below hb)
  replace HX := Lib.hid (HX.out.below hb)
  replace P1 := Lib.hid (P1.out.below hb)
  replace R0 := Lib.hid (RoR.below R0.out hb)
  replace R1 := Lib.hid (RoR.below R1.out hb)
  have HX2 := Lib.hid hx
  clear hb
  clear hx
  go_wp2_with fail
  refine (neqAssetS_same _ _ n n n f _ HX.out.at_ HX2.out.at_ hn).mono ?_
  rintro e w8 ⟨rfl, hb⟩
  replace HB : Hid (Below w.heap.size w w8) := HB.out.trans (hb.mono HB.out.size)
  clear HX2
  replace P0 := Lib.hid (P0.out.below hb)
  replace HX := Lib.hid (HX.out.below hb)
  replace P1 := Lib.hid (P1.out.below hb)
  replace R0 := Lib.hid (RoR.below R0.out hb)
  replace R1 := Lib.hid (RoR.below R1.out hb)
  clear hb
  go_wp2_with fail
  refine (nmarkAssetS_any _ n n 1 f _ HX.out hn (by omega)).mono ?_
  rintro e w9 ⟨rfl, _, ho⟩
  have q0 := S3.out
  have q1 := S4.out
  have q2 := LO.out
  have q4 := LE5.out
  have tyX := isBlk_type HX.out
  replace P0 := Lib.hid (lsown_keep P0.out (fun q e => ho.block q (P0.out.lt e).2 (by have := LT0.out q e; omega)))
  replace P1 := Lib.hid (lsown_keep P1.out (fun q e => ho.block q (P1.out.lt e).2 (by have := (P1.out.lt e).1; omega)))
  replace R0 := Lib.hid (RoR.only R0.out ho tyX)
  replace R1 := Lib.hid (RoR.only R1.out ho tyX)
  replace HB : Hid (Below w.heap.size w w9) := HB.out.trans (ho.below (by omega) HB.out.size)
  clear ho q0 q1 q2 q4 tyX HX
  obtain ⟨K, hK⟩ : ∃ K : Nat, K = 1 + n * 2 := ⟨_, rfl⟩
  rw [← hK]
  have hKb : K ≤ 4194304 := by omega
  have hKz : ¬ (K : Int) < 0 := by omega
  clear hK
  obtain ⟨⟨p0, p1, p2, p3⟩, _⟩ := rowN4 R1.out
  obtain ⟨⟨q0, q1, q2, q3⟩, _⟩ := rowN4 R0.out
  go_wp2_with fail
  refine (eqRenewOut_same O.cs O.wo O.cd O.m O.L a1 a0 k1 k0 _ (by have q := P1.out.at_; rw [Nat.mul_one] at q; exact q) (by have q := P0.out.at_; rw [Nat.mul_one] at q; exact q) hOm).mono ?_
  rintro e wa ⟨rfl, hb⟩
  clear p0 p1 p2 p3 q0 q1 q2 q3
  replace HB : Hid (Below w.heap.size w wa) := HB.out.trans (hb.mono HB.out.size)
  replace P0 := Lib.hid (P0.out.below hb)
  replace P1 := Lib.hid (P1.out.below hb)
  replace R0 := Lib.hid (RoR.below R0.out hb)
  replace R1 := Lib.hid (RoR.below R1.out hb)
  clear hb
  clear hKz
  obtain ⟨⟨p0, p1, p2, p3⟩, _⟩ := rowN4 R1.out
  go_wp2_with fail
  refine (markRenewOut_any O.cs O.wo O.cd O.m _ P1.out hOm).mono ?_
  rintro e wb ⟨rfl, hmk, hk, m1, m2, m3, m4⟩
  clear p0 p1 p2 p3
  have q0 := S3.out
  have q1 := S4.out
  have q2 := LO.out
  have q4 := LE5.out
  have ne : ∀ q, q < w4.heap.size → a1 ≠ some ⟨q, 0, none⟩ := fun q hq e => by have := (P1.out.lt e).1; omega
  replace R0 := Lib.hid (RoR.blk R0.out (hk _ R0.out.lt (ne _ (by omega))))
  replace R1 := Lib.hid (RoR.blk R1.out (hk _ R1.out.lt (fun e => by
    rcases P1.out with q | ⟨g, e', _, q⟩
    · rw [q.1] at e; cases e
    · rw [e'] at e
      cases e
      obtain ⟨cur, q', _⟩ := R1.out
      exact typ_ne (isBlk_type q) ⟨cur, q'⟩ (by decide) rfl)))
  replace P0 := Lib.hid (lsown_keep P0.out (fun q e => hk q (P0.out.lt e).2 (ne q (by have := LT0.out q e; omega))))
  have P2 := Lib.hid hmk
  replace HB : Hid (Below w.heap.size w wb) := HB.out.trans ⟨m1, m2, m3, m4, fun k hk1 => hk k (Nat.lt_of_lt_of_le hk1 HB.out.size) (ne k (by omega))⟩
  clear hmk hk m1 m2 m3 m4 q0 q1 q2 q4 ne P1
  obtain ⟨Q, hQ⟩ : ∃ Q : Nat, Q = 1 + O.m := ⟨_, rfl⟩
  rw [← hQ]
  have hQ0 : ¬ (Q : Int) < 0 := by omega
  have HQ := Lib.hid hQ
  clear hQ
  obtain ⟨⟨p0, p1, p2, p3⟩, _⟩ := rowN4 R1.out
  go_wp2_with fail
  refine (heldRenewOut_any O.cs O.wo O.cd O.m _ P2.out hOm).mono ?_
  rintro e wc ⟨rfl, hb⟩
  clear p0 p1 p2 p3
  replace HB : Hid (Below w.heap.size w wc) := HB.out.trans (hb.mono HB.out.size)
  replace P0 := Lib.hid (P0.out.below hb)
  replace P2 := Lib.hid (P2.out.below hb)
  replace R0 := Lib.hid (RoR.below R0.out hb)
  replace R1 := Lib.hid (RoR.below R1.out hb)
  clear hb
  rw [← HQ.out]
  go_wp2_with fail
  refine (ntoAssetS_any a n k f _ (H.out.below HB.out) hn).mono ?_
  rintro e wd ⟨⟨rfl, hx⟩, hb⟩
  replace HB : Hid (Below w.heap.size w wd) := HB.out.trans (hb.mono HB.out.size)
  replace P0 := Lib.hid (P0.out.below hb)
  replace P2 := Lib.hid (P2.out.below hb)
  replace R0 := Lib.hid (RoR.below R0.out hb)
  replace R1 := Lib.hid (RoR.below R1.out hb)
  have HX := Lib.hid hx
  clear hb
  clear hx
  go_wp2_with fail
  refine (IM.out _ _ HX.out (HET.out.below HB.out)).mono ?_
  rintro e we ⟨⟨a3, k3, rfl, hp⟩, hb⟩
  replace HB : Hid (Below w.heap.size w we) := HB.out.trans (hb.mono HB.out.size)
  clear HX
  replace P0 := Lib.hid (P0.out.below hb)
  replace P2 := Lib.hid (P2.out.below hb)
  replace R0 := Lib.hid (RoR.below R0.out hb)
  replace R1 := Lib.hid (RoR.below R1.out hb)
  have P3 := Lib.hid hp
  clear hb
  clear hp
  go_upto_region 25 with fail
  obtain ⟨V7, hV7⟩ : ∃ V, V = we.alloc (.cells #[.slice a3 O.m k3, .int .i64 O.cs, .int .i64 O.wo, .int .i64 O.cd] 26) := ⟨_, rfl⟩
  have hb : Below we.heap.size we V7 := by rw [hV7]; exact nbel_alloc _ _
  have R3 : Hid (RoR we.heap.size O a3 k3 V7) := by show World.rowIs _ _ _ _ _; rw [hV7]; exact rowN_alloc _ _ _
  rw [← hV7]
  replace HB : Hid (Below w.heap.size w V7) := HB.out.trans (hb.mono HB.out.size)
  clear hV7
  replace P0 := Lib.hid (P0.out.below hb)
  replace P2 := Lib.hid (P2.out.below hb)
  replace P3 := Lib.hid (P3.out.below hb)
  replace R0 := Lib.hid (RoR.below R0.out hb)
  replace R1 := Lib.hid (RoR.below R1.out hb)
  clear hb
  obtain ⟨⟨p0, p1, p2, p3⟩, _⟩ := rowN4 R3.out
  obtain ⟨⟨q0, q1, q2, q3⟩, _⟩ := rowN4 R0.out
  go_wp2_with fail
  refine (eqRenewOut_same O.cs O.wo O.cd O.m O.L a3 a0 k3 k0 _ (by have q := P3.out.at_; rw [Nat.mul_one] at q; exact q) (by have q := P0.out.at_; rw [Nat.mul_one] at q; exact q) hOm).mono ?_
  rintro e wf ⟨rfl, hb⟩
  clear p0 p1 p2 p3 q0 q1 q2 q3
  replace HB : Hid (Below w.heap.size w wf) := HB.out.trans (hb.mono HB.out.size)
  clear P3
  clear R3
  replace P0 := Lib.hid (P0.out.below hb)
  replace P2 := Lib.hid (P2.out.below hb)
  replace R0 := Lib.hid (RoR.below R0.out hb)
  replace R1 := Lib.hid (RoR.below R1.out hb)
  clear hb
  obtain ⟨⟨p0, p1, p2, p3⟩, _⟩ := rowN4 R1.out
  go_wp2_with fail
  refine (heldRenewOut_any O.cs O.wo O.cd O.m _ P2.out hOm).mono ?_
  rintro e wg ⟨rfl, hb⟩
  clear p0 p1 p2 p3
  replace HB : Hid (Below w.heap.size w wg) := HB.out.trans (hb.mono HB.out.size)
  replace P0 := Lib.hid (P0.out.below hb)
  replace P2 := Lib.hid (P2.out.below hb)
  replace R0 := Lib.hid (RoR.below R0.out hb)
  replace R1 := Lib.hid (RoR.below R1.out hb)
  clear hb
  rw [← HQ.out]
  go_wp2_with fail
  go_ret
  exact ⟨rfl, HB.out⟩
set_option maxRecDepth 100000 in
set_option maxHeartbeats 8000000 in
theorem renewOf_law (w : World) (a : Option Addr) (n k : Nat) (f : Nat → Int) (h : IsIn a (n * 2) f w) (hn9 : n ≤ 9223372036854775807) (z : Int) (pa : Option Addr) (m pk : Nat) (p : Nat → Int) (hp : IsIn pa m p w) (hm9 : m ≤ 9223372036854775807) (hg : Et w) :
    Calls Tryd.prog 4 #[.slice a n k, .int .i64 z, .slice pa m pk] w fun e w' => e = .returned (.bool true) ∧ Below w.heap.size w w' := by
  by_cases hm : m ≤ 1048576
  case neg =>
    have hmz : (1048576 : Int) < (m : Int) := by omega
    have hmz2 : (m : Int) ≤ 9223372036854775807 := by omega
    clear h hp
    go_enter Tryd.func4, Tryd.ntmps4
    go_wp2_with fail
    go_ret
    exact ⟨rfl, Below.refl _ _⟩
  have hmz : ¬ (1048576 : Int) < (m : Int) := by omega
  by_cases hn : n ≤ 1048576
  case neg =>
    clear h hp
    go_enter Tryd.func4, Tryd.ntmps4
    go_wp2_with fail
    refine (nszAsset_over a n k 1048576 _ (by omega) (by omega) hn9).mono ?_
    rintro e w1 ⟨rfl, rfl⟩
    go_wp2_with fail
    go_ret
    exact ⟨rfl, Below.refl _ _⟩
  have H := Lib.hid h
  have HP := Lib.hid hp
  have HET := Lib.hid hg
  have HB : Hid (Below w.heap.size w w) := Below.refl _ _
  obtain ⟨O, hO⟩ : ∃ O, O = Rn.of_ n f z m p := ⟨_, rfl⟩
  have hOm : O.m ≤ 1048576 := by rw [hO]; exact Nat.le_trans (Rn.of_le n f z m p) (by omega)
  have SP : Hid (∀ g g2 V, IsBlk 53 g (n * 2) f V → IsBlk 2 g2 m p V → Calls Tryd.prog 16 #[.slice (some ⟨g, 0, none⟩) n n, .int .i64 z, .slice (some ⟨g2, 0, none⟩) m m] V fun e w' => RoEnd V.heap.size O e w' ∧ Below V.heap.size V w') := fun g g2 V q q2 => by
    rw [hO]; exact specOf_any _ n n f z _ m m p V q.at_ hn q2.at_ hm (fun e => by cases e)
  have IM : Hid (∀ g g2 V, IsBlk 53 g (n * 2) f V → IsBlk 2 g2 m p V → Et V → Calls Tryd.prog 18 #[.slice (some ⟨g, 0, none⟩) n n, .int .i64 z, .slice (some ⟨g2, 0, none⟩) m m] V fun e w' => RoEnd V.heap.size O e w' ∧ Below V.heap.size V w') := fun g g2 V q q2 t => by
    rw [hO]; exact implOf_any _ n n f z _ m m p V q.at_ hn q2.at_ hm (fun e => by cases e) t
  clear h hn9 hg hO hp hm9
  go_enter Tryd.func4, Tryd.ntmps4
  go_wp2_with fail
  refine (nszAsset_in a n k 1048576 _ hn (by omega)).mono ?_
  rintro e w1 ⟨rfl, hw⟩
  subst w1
  obtain ⟨left, hleft⟩ : ∃ left : Nat, left = 1048576 - n := ⟨_, rfl⟩
  rw [← hleft]
  have hleftz : ¬ (left : Int) < 0 := by omega
  clear hleft
  go_wp2_with fail
  refine (ntoAssetS_any a n k f _ (H.out.below HB.out) hn).mono ?_
  rintro e w2 ⟨⟨rfl, hx⟩, hb⟩
  replace HB : Hid (Below w.heap.size w w2) := HB.out.trans (hb.mono HB.out.size)
  have HX := Lib.hid hx
  clear hb
  clear hx
  go_wp2_with fail
  refine (ntoInt64S_any pa m pk p _ (HP.out.below HB.out) hm).mono ?_
  rintro e w2i ⟨⟨rfl, hx⟩, hb⟩
  replace HB : Hid (Below w.heap.size w w2i) := HB.out.trans (hb.mono HB.out.size)
  replace HX := Lib.hid (HX.out.below hb)
  have HY := Lib.hid hx
  clear hb
  clear hx
  go_wp2_with fail
  refine (SP.out _ _ _ HX.out HY.out).mono ?_
  rintro e w3 ⟨⟨a0, k0, rfl, hp⟩, hb⟩
  replace HB : Hid (Below w.heap.size w w3) := HB.out.trans (hb.mono HB.out.size)
  clear HX
  clear HY
  have P0 := Lib.hid hp
  clear hb
  clear hp
  have LT0 : Hid (∀ q, a0 = some ⟨q, 0, none⟩ → q < w3.heap.size) := fun q e => (P0.out.lt e).2
  have LO : Hid (w.heap.size ≤ w3.heap.size) := HB.out.size
  go_upto_region 8 with fail
  obtain ⟨V3, hV3⟩ : ∃ V, V = w3.alloc (.cells #[.slice a0 O.m k0, .int .i64 O.cs, .int .i64 O.wo, .int .i64 O.cd] 26) := ⟨_, rfl⟩
  have hb : Below w3.heap.size w3 V3 := by rw [hV3]; exact nbel_alloc _ _
  have R0 : Hid (RoR w3.heap.size O a0 k0 V3) := by show World.rowIs _ _ _ _ _; rw [hV3]; exact rowN_alloc _ _ _
  rw [← hV3]
  replace HB : Hid (Below w.heap.size w V3) := HB.out.trans (hb.mono HB.out.size)
  clear hV3
  replace P0 := Lib.hid (P0.out.below hb)
  clear hb
  have S3 : Hid (w3.heap.size < V3.heap.size) := R0.out.lt
  go_wp2_with fail
  refine (ntoAssetS_any a n k f _ (H.out.below HB.out) hn).mono ?_
  rintro e w4 ⟨⟨rfl, hx⟩, hb⟩
  replace HB : Hid (Below w.heap.size w w4) := HB.out.trans (hb.mono HB.out.size)
  replace P0 := Lib.hid (P0.out.below hb)
  replace R0 := Lib.hid (RoR.below R0.out hb)
  have HX := Lib.hid hx
  clear hb
  clear hx
  have S4 : Hid (V3.heap.size < w4.heap.size) := HX.out.lt
  go_wp2_with fail
  refine (ntoInt64S_any pa m pk p _ (HP.out.below HB.out) hm).mono ?_
  rintro e w4i ⟨⟨rfl, hx⟩, hb⟩
  replace HB : Hid (Below w.heap.size w w4i) := HB.out.trans (hb.mono HB.out.size)
  replace P0 := Lib.hid (P0.out.below hb)
  replace HX := Lib.hid (HX.out.below hb)
  replace R0 := Lib.hid (RoR.below R0.out hb)
  have HY := Lib.hid hx
  clear hb
  clear hx
  have S4i : Hid (w4.heap.size < w4i.heap.size) := HY.out.lt
  go_wp2_with fail
  refine (IM.out _ _ _ HX.out HY.out (HET.out.below HB.out)).mono ?_
  rintro e w5 ⟨⟨a1, k1, rfl, hp⟩, hb⟩
  have LE5 : Hid (w4i.heap.size ≤ w5.heap.size) := hb.size
  replace HB : Hid (Below w.heap.size w w5) := HB.out.trans (hb.mono HB.out.size)
  replace P0 := Lib.hid (P0.out.below hb)
  replace HX := Lib.hid (HX.out.below hb)
  replace HY := Lib.hid (HY.out.below hb)
  replace R0 := Lib.hid (RoR.below R0.out hb)
  have P1 := Lib.hid hp
  clear hb
  clear hp
  go_upto_region 11 with fail
  obtain ⟨V5, hV5⟩ : ∃ V, V = w5.alloc (.cells #[.slice a1 O.m k1, .int .i64 O.cs, .int .i64 O.wo, .int .i64 O.cd] 26) := ⟨_, rfl⟩
  have hb : Below w5.heap.size w5 V5 := by rw [hV5]; exact nbel_alloc _ _
  have R1 : Hid (RoR w5.heap.size O a1 k1 V5) := by show World.rowIs _ _ _ _ _; rw [hV5]; exact rowN_alloc _ _ _
  rw [← hV5]
  replace HB : Hid (Below w.heap.size w V5) := HB.out.trans (hb.mono HB.out.size)
  clear hV5
  replace P0 := Lib.hid (P0.out.below hb)
  replace HX := Lib.hid (HX.out.below hb)
  replace HY := Lib.hid (HY.out.below hb)
  replace P1 := Lib.hid (P1.out.below hb)
  replace R0 := Lib.hid (RoR.below R0.out hb)
  clear hb
  obtain ⟨⟨p0, p1, p2, p3⟩, _⟩ := rowN4 R1.out
  obtain ⟨⟨q0, q1, q2, q3⟩, _⟩ := rowN4 R0.out
  go_wp2_with fail
  refine (eqRenewOut_same O.cs O.wo O.cd O.m O.L a1 a0 k1 k0 _ (by have q := P1.out.at_; rw [Nat.mul_one] at q; exact q) (by have q := P0.out.at_; rw [Nat.mul_one] at q; exact q) hOm).mono ?_
  rintro e w6 ⟨rfl, hb⟩
  clear p0 p1 p2 p3 q0 q1 q2 q3
  replace HB : Hid (Below w.heap.size w w6) := HB.out.trans (hb.mono HB.out.size)
  replace P0 := Lib.hid (P0.out.below hb)
  replace HX := Lib.hid (HX.out.below hb)
  replace HY := Lib.hid (HY.out.below hb)
  replace P1 := Lib.hid (P1.out.below hb)
  replace R0 := Lib.hid (RoR.below R0.out hb)
  replace R1 := Lib.hid (RoR.below R1.out hb)
  clear hb
  go_wp2_with fail
  refine (ntoAssetS_any a n k f _ (H.out.below HB.out) hn).mono ?_
  rintro e w7 ⟨⟨rfl, hx⟩, hb⟩
  replace HB : Hid (Below w.heap.size w w7) := HB.out.trans (hb.mono HB.out.size)
  replace P0 := Lib.hid (P0.out.below hb)
  replace HX := Lib.hid (HX.out.below hb)
  replace HY := Lib.hid (HY.out.below hb)
  replace P1 := Lib.hid (P1.out.below hb)
  replace R0 := Lib.hid (RoR.below R0.out hb)
  replace R1 := Lib.hid (RoR.below R1.out hb)
  have HX2 := Lib.hid hx
  clear hb
  clear hx
  go_wp2_with fail
  refine (neqAssetS_same _ _ n n n f _ HX.out.at_ HX2.out.at_ hn).mono ?_
  rintro e w8 ⟨rfl, hb⟩
  replace HB : Hid (Below w.heap.size w w8) := HB.out.trans (hb.mono HB.out.size)
  clear HX2
  replace P0 := Lib.hid (P0.out.below hb)
  replace HX := Lib.hid (HX.out.below hb)
  replace HY := Lib.hid (HY.out.below hb)
  replace P1 := Lib.hid (P1.out.below hb)
  replace R0 := Lib.hid (RoR.below R0.out hb)
  replace R1 := Lib.hid (RoR.below R1.out hb)
  clear hb
  go_wp2_with fail
  refine (ntoInt64S_any pa m pk p _ (HP.out.below HB.out) hm).mono ?_
  rintro e w7i ⟨⟨rfl, hx⟩, hb⟩
  replace HB : Hid (Below w.heap.size w w7i) := HB.out.trans (hb.mono HB.out.size)
  replace P0 := Lib.hid (P0.out.below hb)
  replace HX := Lib.hid (HX.out.below hb)
  replace HY := Lib.hid (HY.out.below hb)
  replace P1 := Lib.hid (P1.out.below hb)
  replace R0 := Lib.hid (RoR.below R0.out hb)
  replace R1 := Lib.hid (RoR.below R1.out hb)
  have HY2 := Lib.hid hx
  clear hb
  clear hx
  go_wp2_with fail
  refine (neqInt64S_same _ _ m m m p _ HY.out.at_ HY2.out.at_ hm).mono ?_
  rintro e w8i ⟨rfl, hb⟩
  replace HB : Hid (Below w.heap.size w w8i) := HB.out.trans (hb.mono HB.out.size)
  clear HY2
  replace P0 := Lib.hid (P0.out.below hb)
  replace HX := Lib.hid (HX.out.below hb)
  replace HY := Lib.hid (HY.out.below hb)
  replace P1 := Lib.hid (P1.out.below hb)
  replace R0 := Lib.hid (RoR.below R0.out hb)
  replace R1 := Lib.hid (RoR.below R1.out hb)
  clear hb
  go_wp2_with fail
  refine (nmarkAssetS_any _ n n 1 f _ HX.out hn (by omega)).mono ?_
  rintro e w9 ⟨rfl, _, ho⟩
  have q0 := S3.out
  have q1 := S4.out
  have q2 := LO.out
  have q4 := LE5.out
  have q3 := S4i.out
  have tyX := isBlk_type HX.out
  replace P0 := Lib.hid (lsown_keep P0.out (fun q e => ho.block q (P0.out.lt e).2 (by have := LT0.out q e; omega)))
  replace P1 := Lib.hid (lsown_keep P1.out (fun q e => ho.block q (P1.out.lt e).2 (by have := (P1.out.lt e).1; omega)))
  replace R0 := Lib.hid (RoR.only R0.out ho tyX)
  replace R1 := Lib.hid (RoR.only R1.out ho tyX)
  replace HY := Lib.hid (HY.out.block (ho.block _ HY.out.lt (by omega)))
  replace HB : Hid (Below w.heap.size w w9) := HB.out.trans (ho.below (by omega) HB.out.size)
  clear ho q0 q1 q2 q4 tyX HX q3
  obtain ⟨K, hK⟩ : ∃ K : Nat, K = 1 + n * 2 := ⟨_, rfl⟩
  rw [← hK]
  have hKb : K ≤ 4194304 := by omega
  have hKz : ¬ (K : Int) < 0 := by omega
  clear hK
  go_wp2_with fail
  refine (nmarkInt64S_any _ m m K p _ HY.out hm (by omega)).mono ?_
  rintro e w9i ⟨rfl, _, ho⟩
  have q0 := S3.out
  have q1 := S4.out
  have q2 := LO.out
  have q3 := S4i.out
  have q4 := LE5.out
  replace P0 := Lib.hid (lsown_keep P0.out (fun q e => ho.block q (P0.out.lt e).2 (by have := LT0.out q e; omega)))
  replace P1 := Lib.hid (lsown_keep P1.out (fun q e => ho.block q (P1.out.lt e).2 (by have := (P1.out.lt e).1; omega)))
  have tyX := isBlk_type HY.out
  replace R0 := Lib.hid (RoR.only R0.out ho tyX)
  replace R1 := Lib.hid (RoR.only R1.out ho tyX)
  replace HB : Hid (Below w.heap.size w w9i) := HB.out.trans (ho.below (by omega) HB.out.size)
  clear ho q0 q1 q2 q3 q4 tyX HY hKz
  obtain ⟨K2, hK2⟩ : ∃ K2 : Nat, K2 = K + m := ⟨_, rfl⟩
  rw [← hK2]
  have hKz : ¬ (K2 : Int) < 0 := by omega
  clear hK2
  obtain ⟨⟨p0, p1, p2, p3⟩, _⟩ := rowN4 R1.out
  obtain ⟨⟨q0, q1, q2, q3⟩, _⟩ := rowN4 R0.out
  go_wp2_with fail
  refine (eqRenewOut_same O.cs O.wo O.cd O.m O.L a1 a0 k1 k0 _ (by have q := P1.out.at_; rw [Nat.mul_one] at q; exact q) (by have q := P0.out.at_; rw [Nat.mul_one] at q; exact q) hOm).mono ?_
  rintro e wa ⟨rfl, hb⟩
  clear p0 p1 p2 p3 q0 q1 q2 q3
  replace HB : Hid (Below w.heap.size w wa) := HB.out.trans (hb.mono HB.out.size)
  replace P0 := Lib.hid (P0.out.below hb)
  replace P1 := Lib.hid (P1.out.below hb)
  replace R0 := Lib.hid (RoR.below R0.out hb)
  replace R1 := Lib.hid (RoR.below R1.out hb)
  clear hb
  clear hKz
  obtain ⟨⟨p0, p1, p2, p3⟩, _⟩ := rowN4 R1.out
  go_wp2_with fail
  refine (markRenewOut_any O.cs O.wo O.cd O.m _ P1.out hOm).mono ?_
  rintro e wb ⟨rfl, hmk, hk, m1, m2, m3, m4⟩
  clear p0 p1 p2 p3
  have q0 := S3.out
  have q1 := S4.out
  have q2 := LO.out
  have q4 := LE5.out
  have q3 := S4i.out
  have ne : ∀ q, q < w4i.heap.size → a1 ≠ some ⟨q, 0, none⟩ := fun q hq e => by have := (P1.out.lt e).1; omega
  replace R0 := Lib.hid (RoR.blk R0.out (hk _ R0.out.lt (ne _ (by omega))))
  replace R1 := Lib.hid (RoR.blk R1.out (hk _ R1.out.lt (fun e => by
    rcases P1.out with q | ⟨g, e', _, q⟩
    · rw [q.1] at e; cases e
    · rw [e'] at e
      cases e
      obtain ⟨cur, q', _⟩ := R1.out
      exact typ_ne (isBlk_type q) ⟨cur, q'⟩ (by decide) rfl)))
  replace P0 := Lib.hid (lsown_keep P0.out (fun q e => hk q (P0.out.lt e).2 (ne q (by have := LT0.out q e; omega))))
  have P2 := Lib.hid hmk
  replace HB : Hid (Below w.heap.size w wb) := HB.out.trans ⟨m1, m2, m3, m4, fun k hk1 => hk k (Nat.lt_of_lt_of_le hk1 HB.out.size) (ne k (by omega))⟩
  clear hmk hk m1 m2 m3 m4 q0 q1 q2 q4 ne P1 q3
  obtain ⟨Q, hQ⟩ : ∃ Q : Nat, Q = 1 + O.m := ⟨_, rfl⟩
  rw [← hQ]
  have hQ0 : ¬ (Q : Int) < 0 := by omega
  have HQ := Lib.hid hQ
  clear hQ
  obtain ⟨⟨p0, p1, p2, p3⟩, _⟩ := rowN4 R1.out
  go_wp2_with fail
  refine (heldRenewOut_any O.cs O.wo O.cd O.m _ P2.out hOm).mono ?_
  rintro e wc ⟨rfl, hb⟩
  clear p0 p1 p2 p3
  replace HB : Hid (Below w.heap.size w wc) := HB.out.trans (hb.mono HB.out.size)
  replace P0 := Lib.hid (P0.out.below hb)
  replace P2 := Lib.hid (P2.out.below hb)
  replace R0 := Lib.hid (RoR.below R0.out hb)
  replace R1 := Lib.hid (RoR.below R1.out hb)
  clear hb
  rw [← HQ.out]
  go_wp2_with fail
  refine (ntoAssetS_any a n k f _ (H.out.below HB.out) hn).mono ?_
  rintro e wd ⟨⟨rfl, hx⟩, hb⟩
  replace HB : Hid (Below w.heap.size w wd) := HB.out.trans (hb.mono HB.out.size)
  replace P0 := Lib.hid (P0.out.below hb)
  replace P2 := Lib.hid (P2.out.below hb)
  replace R0 := Lib.hid (RoR.below R0.out hb)
  replace R1 := Lib.hid (RoR.below R1.out hb)
  have HX := Lib.hid hx
  clear hb
  clear hx
  go_wp2_with fail
  refine (ntoInt64S_any pa m pk p _ (HP.out.below HB.out) hm).mono ?_
  rintro e wdi ⟨⟨rfl, hx⟩, hb⟩
  replace HB : Hid (Below w.heap.size w wdi) := HB.out.trans (hb.mono HB.out.size)
  replace P0 := Lib.hid (P0.out.below hb)
  replace P2 := Lib.hid (P2.out.below hb)
  replace HX := Lib.hid (HX.out.below hb)
  replace R0 := Lib.hid (RoR.below R0.out hb)
  replace R1 := Lib.hid (RoR.below R1.out hb)
  have HY := Lib.hid hx
  clear hb
  clear hx
  go_wp2_with fail
  refine (IM.out _ _ _ HX.out HY.out (HET.out.below HB.out)).mono ?_
  rintro e we ⟨⟨a3, k3, rfl, hp⟩, hb⟩
  replace HB : Hid (Below w.heap.size w we) := HB.out.trans (hb.mono HB.out.size)
  clear HX
  clear HY
  replace P0 := Lib.hid (P0.out.below hb)
  replace P2 := Lib.hid (P2.out.below hb)
  replace R0 := Lib.hid (RoR.below R0.out hb)
  replace R1 := Lib.hid (RoR.below R1.out hb)
  have P3 := Lib.hid hp
  clear hb
  clear hp
  go_upto_region 31 with fail
  obtain ⟨V7, hV7⟩ : ∃ V, V = we.alloc (.cells #[.slice a3 O.m k3, .int .i64 O.cs, .int .i64 O.wo, .int .i64 O.cd] 26) := ⟨_, rfl⟩
  have hb : Below we.heap.size we V7 := by rw [hV7]; exact nbel_alloc _ _
  have R3 : Hid (RoR we.heap.size O a3 k3 V7) := by show World.rowIs _ _ _ _ _; rw [hV7]; exact rowN_alloc _ _ _
  rw [← hV7]
  replace HB : Hid (Below w.heap.size w V7) := HB.out.trans (hb.mono HB.out.size)
  clear hV7
  replace P0 := Lib.hid (P0.out.below hb)
  replace P2 := Lib.hid (P2.out.below hb)
  replace P3 := Lib.hid (P3.out.below hb)
  replace R0 := Lib.hid (RoR.below R0.out hb)
  replace R1 := Lib.hid (RoR.below R1.out hb)
  clear hb
  obtain ⟨⟨p0, p1, p2, p3⟩, _⟩ := rowN4 R3.out
  obtain ⟨⟨q0, q1, q2, q3⟩, _⟩ := rowN4 R0.out
  go_wp2_with fail
  refine (eqRenewOut_same O.cs O.wo O.cd O.m O.L a3 a0 k3 k0 _ (by have q := P3.out.at_; rw [Nat.mul_one] at q; exact q) (by have q := P0.out.at_; rw [Nat.mul_one] at q; exact q) hOm).mono ?_
  rintro e wf ⟨rfl, hb⟩
  clear p0 p1 p2 p3 q0 q1 q2 q3
  replace HB : Hid (Below w.heap.size w wf) := HB.out.trans (hb.mono HB.out.size)
  clear P3
  clear R3
  replace P0 := Lib.hid (P0.out.below hb)
  replace P2 := Lib.hid (P2.out.below hb)
  replace R0 := Lib.hid (RoR.below R0.out hb)
  replace R1 := Lib.hid (RoR.below R1.out hb)
  clear hb
  obtain ⟨⟨p0, p1, p2, p3⟩, _⟩ := rowN4 R1.out
  go_wp2_with fail
  refine (heldRenewOut_any O.cs O.wo O.cd O.m _ P2.out hOm).mono ?_
  rintro e wg ⟨rfl, hb⟩
  clear p0 p1 p2 p3
  replace HB : Hid (Below w.heap.size w wg) := HB.out.trans (hb.mono HB.out.size)
  replace P0 := Lib.hid (P0.out.below hb)
  replace P2 := Lib.hid (P2.out.below hb)
  replace R0 := Lib.hid (RoR.below R0.out hb)
  replace R1 := Lib.hid (RoR.below R1.out hb)
  clear hb
  rw [← HQ.out]
  go_wp2_with fail
  go_ret
  exact ⟨rfl, HB.out⟩
end Go.Proofs.YtbkpedcabbppbaaDoor
