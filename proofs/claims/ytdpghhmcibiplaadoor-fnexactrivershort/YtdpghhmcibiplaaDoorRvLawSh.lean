/-
  The law FnExactRiverShort.
-/
import Derived.Test.YtdpghhmcibiplaaDoorRvSh
import Derived.Test.YtdpghhmcibiplaaDoorRvEx2
import Derived.Test.YtdpghhmcibiplaaDoorRvLawR
namespace Go.Proofs.YtdpghhmcibiplaaDoor
open Go.RowKit Go.Deep

/-- A list of numbers that an answer is: its own memory, or none. -/
def LsOwn (B N : Nat) (a : Option Addr) (c : Nat) (f : Nat → Int) (W : World) : Prop := (a = none ∧ N = 0 ∧ c = 0) ∨ ∃ g, a = some ⟨g, 0, none⟩ ∧ B ≤ g ∧ InBlk g N f W
def LsMk (B N : Nat) (a : Option Addr) (c : Nat) (W : World) : Prop := (a = none ∧ N = 0 ∧ c = 0) ∨ ∃ g, a = some ⟨g, 0, none⟩ ∧ B ≤ g ∧ MkBlk 2 g N 1 W
theorem LsOwn.same {B N c : Nat} {a : Option Addr} {f : Nat → Int} {W W' : World} (h : LsOwn B N a c f W) (hb : ∀ k, B ≤ k → k < W.heap.size → W'.heap[k]? = W.heap[k]?) : LsOwn B N a c f W' := by
  rcases h with h | ⟨g, e, h1, h2⟩
  · exact Or.inl h
  · exact Or.inr ⟨g, e, h1, h2.block (hb g h1 h2.lt)⟩
theorem LsMk.same {B N c : Nat} {a : Option Addr} {W W' : World} (h : LsMk B N a c W) (hb : ∀ k, B ≤ k → k < W.heap.size → W'.heap[k]? = W.heap[k]?) : LsMk B N a c W' := by
  rcases h with h | ⟨g, e, h1, h2⟩
  · exact Or.inl h
  · exact Or.inr ⟨g, e, h1, h2.block (hb g h1 h2.lt)⟩
theorem LsOwn.at_ {B N c : Nat} {a : Option Addr} {f : Nat → Int} {W : World} (h : LsOwn B N a c f W) : IntsAt a N f W := by
  rcases h with h | ⟨g, e, h1, h2⟩
  · exact Or.inl h.2.1
  · rw [e]; exact h2.at_
theorem ls_own {B : Nat} {v : Value} {l : List Nat} {W : World} (h : W.ownsRow B 2 1 v l.length (natVs l)) : ∃ a c, v = .slice a l.length c ∧ LsOwn B l.length a c (fun j => ((l.getD j 0 : Nat) : Int)) W := by
  have h' : W.ownsRow B 2 1 v (l.map (fun (k : Nat) => (k : Int))).length ((l.map (fun (k : Nat) => (k : Int))).map (Value.int .i64)) := by
    rw [List.length_map, List.map_map]; exact h
  rcases own_ints h' with ⟨e1, e2⟩ | ⟨g, cap, e1, e2, e3⟩
  · have : l = [] := by simpa using e2
    subst this
    exact ⟨none, 0, e1, Or.inl ⟨rfl, rfl, rfl⟩⟩
  · rw [List.length_map] at e1 e3
    refine ⟨_, _, e1, Or.inr ⟨g, rfl, e2, e3.congr (fun j hj => ?_)⟩⟩
    unfold inList
    simp [List.getD, hj]
theorem markLs {B N c : Nat} {a : Option Addr} {f : Nat → Int} (w : World) (h : LsOwn B N a c f w) (hn : N ≤ 1048576) :
    Calls Tryd.prog 21 #[.slice a N c, .int .i64 1] w fun e w' => e = .returned (.int .i64 ((1 + N : Nat) : Int)) ∧ LsMk B N a c w' ∧ ((∀ k, k < w.heap.size → (Value.slice a N c).ownBlock ≠ some k → w'.heap[k]? = w.heap[k]?) ∧ w'.os = w.os ∧ w'.tape = w.tape ∧ w'.output = w.output ∧ w.heap.size ≤ w'.heap.size) := by
  rcases h with ⟨rfl, rfl, rfl⟩ | ⟨g, rfl, h1, h2⟩
  · refine (markInt64S_nil 1 w).mono ?_
    rintro e w' ⟨rfl, rfl⟩
    exact ⟨rfl, Or.inl ⟨rfl, rfl, rfl⟩, fun _ _ _ => rfl, rfl, rfl, rfl, Nat.le_refl _⟩
  · refine (markInt64S_any g N c 1 f w h2 hn (by omega)).mono ?_
    rintro e w' ⟨rfl, hm, ho⟩
    exact ⟨rfl, Or.inr ⟨g, rfl, h1, hm⟩, fun k hk hne => ho.block k hk (fun e => hne (by rw [e]; rfl)), ho.os, ho.tape, ho.output, ho.size⟩
theorem heldLs {B N c : Nat} {a : Option Addr} (w : World) (h : LsMk B N a c w) (hn : N ≤ 1048576) :
    Calls Tryd.prog 26 #[.slice a N c, .int .i64 1] w fun e w' => e = .returned (.int .i64 ((1 + N : Nat) : Int)) ∧ w' = w := by
  rcases h with ⟨rfl, rfl, rfl⟩ | ⟨g, rfl, h1, h2⟩
  · exact heldInt64S_nil 1 w
  · exact heldInt64S_any g N c 1 w h2 hn (by omega)

/-- A function that answers a river and a rain by this list, in memory of its own. -/
def AnsSh (G : World → Prop) (fn : Nat) (n m : Nat) (rs : Nat → Rv.Rc) (f : Nat → Int) (l : List Nat) : Prop :=
  ∀ (a b : Option Addr) (cn cm : Nat) (w : World), RcsAt a n rs w → IntsAt b m f w → G w → Calls Tryd.prog fn #[.slice a n cn, .slice b m cm] w fun e w' => (∃ b c, e = .returned (.slice b l.length c) ∧ LsOwn w.heap.size l.length b c (fun j => ((l.getD j 0 : Nat) : Int)) w') ∧ Below w.heap.size w w'
theorem short_both (n m : Nat) (rs : Nat → Rv.Rc) (f : Nat → Int) : ∃ l : List Nat, l.length ≤ 1048576 ∧ AnsSh (fun _ => True) 24 n m rs f l ∧ AnsSh Et 25 n m rs f l := by
  refine ⟨shOf n rs (Rv.stepF n m rs f), ?_, fun a b cn cm w h1 h2 _ => ?_, fun a b cn cm w h1 h2 hg => ?_⟩
  · cases hr : Rv.stepF n m rs f with
    | error k => show ([] : List Nat).length ≤ _; simp
    | ok st =>
      have hn := (Rv.stepF_inv hr).1.1.1
      have := short_len rs st.tk n
      show (Rv.short rs st.tk n).length ≤ _
      omega
  · refine (specShort_any a b n cn m cm rs f w h1 h2).mono ?_
    rintro e w' ⟨⟨v, rfl, ho⟩, hb⟩
    obtain ⟨a, c, rfl, h1⟩ := ls_own ho
    exact ⟨⟨a, c, rfl, h1⟩, hb⟩
  · refine (implShort_any a b n cn m cm rs f w h1 h2 hg).mono ?_
    rintro e w' ⟨⟨v, rfl, ho⟩, hb⟩
    obtain ⟨a, c, rfl, h1⟩ := ls_own ho
    exact ⟨⟨a, c, rfl, h1⟩, hb⟩

set_option maxRecDepth 100000 in
set_option maxHeartbeats 4000000 in
theorem shortL_long (a b : Option Addr) (n cn m cm : Nat) (w : World) (hm : 1048576 < m) :
    Calls Tryd.prog 4 #[.slice a n cn, .slice b m cm] w fun e w' => e = .returned (.bool true) ∧ Below w.heap.size w w' := by
  have hz : (1048576 : Int) < (m : Int) := by omega
  go_enter Tryd.func4, Tryd.ntmps4
  go_wp2_with fail
  go_ret
  exact ⟨rfl, Below.refl _ _⟩
set_option maxRecDepth 100000 in
set_option maxHeartbeats 4000000 in
theorem shortL_over (a b : Option Addr) (n cn m cm : Nat) (w : World) (hm : m ≤ 1048576) (hn : 1048576 < n) (hn2 : n ≤ 9223372036854775807) :
    Calls Tryd.prog 4 #[.slice a n cn, .slice b m cm] w fun e w' => e = .returned (.bool true) ∧ Below w.heap.size w w' := by
  have hz : ¬ (1048576 : Int) < (m : Int) := by omega
  go_enter Tryd.func4, Tryd.ntmps4
  go_wp2_with fail
  refine (sz_over a n cn _ hn hn2).mono ?_
  rintro e w1 ⟨rfl, rfl⟩
  go_wp2_with fail
  go_ret
  exact ⟨rfl, Below.refl _ _⟩

/-- What stands from step to step: the model's list below X, the old memory. -/
structure AbS (w : World) (X N : Nat) (a0 : Option Addr) (c0 : Nat) (F : Nat → Int) (W : World) : Prop where
  old : Below w.heap.size w W
  l0 : LsOwn w.heap.size N a0 c0 F W
  lo : ∀ k, (Value.slice a0 N c0).ownBlock = some k → k < X
  hX : w.heap.size ≤ X ∧ X ≤ W.heap.size
theorem AbS.below {w : World} {X N c0 : Nat} {a0 : Option Addr} {F : Nat → Int} {W W' : World} (h : AbS w X N a0 c0 F W) (hb : Below W.heap.size W W') : AbS w X N a0 c0 F W' :=
  ⟨h.old.trans (hb.mono h.old.size), h.l0.same (fun k _ hk => hb.block k hk), h.lo, h.hX.1, Nat.le_trans h.hX.2 hb.size⟩
theorem AbS.chg {w : World} {X N c0 : Nat} {a0 : Option Addr} {F : Nat → Int} {W W' : World} (h : AbS w X N a0 c0 F W) (h1 : ∀ k, k < X → k < W.heap.size → W'.heap[k]? = W.heap[k]?) (h2 : W'.os = W.os ∧ W'.tape = W.tape ∧ W'.output = W.output ∧ W.heap.size ≤ W'.heap.size) : AbS w X N a0 c0 F W' := by
  refine ⟨⟨h2.1.trans h.old.os, h2.2.1.trans h.old.tape, h2.2.2.1.trans h.old.output, Nat.le_trans h.old.size h2.2.2.2, fun k hk => (h1 k (by have := h.hX.1; omega) (by have := h.old.size; omega)).trans (h.old.block k hk)⟩, ?_, h.lo, h.hX.1, Nat.le_trans h.hX.2 h2.2.2.2⟩
  rcases h.l0 with k | ⟨g, e, k1, k2⟩
  · exact Or.inl k
  · exact Or.inr ⟨g, e, k1, k2.block (h1 g (h.lo g (by rw [e]; rfl)) k2.lt)⟩

set_option maxRecDepth 100000 in
set_option maxHeartbeats 8000000 in
theorem shortL_law (a b' : Option Addr) (n cap m cm : Nat) (rs : Nat → Rv.Rc) (f : Nat → Int) (w : World) (h : RcsIn a n rs w) (h2 : IntsIn b' m f w) (hn : n ≤ 1048576) (hm : m ≤ 1048576) (hg : Et w) :
    Calls Tryd.prog 4 #[.slice a n cap, .slice b' m cm] w fun e w' => e = .returned (.bool true) ∧ Below w.heap.size w w' := by
  obtain ⟨l, hl, hS, hI⟩ := short_both n m rs f
  have H := Lib.hid h
  have H2 := Lib.hid h2
  have HG := Lib.hid hg
  have HS := Lib.hid hS
  have HI := Lib.hid hI
  have hz : ¬ ((1048576 - n : Nat) : Int) < 0 := by omega
  have hzm : ¬ (1048576 : Int) < (m : Int) := by omega
  clear h h2 hg hS hI
  go_enter Tryd.func4, Tryd.ntmps4
  go_wp2_with fail
  refine (sz_in a n cap _ hn).mono ?_
  rintro e w1 ⟨rfl, rfl⟩
  go_wp2_with fail
  refine (toReachS_any a n cap rs _ H.out hn).mono ?_
  rintro e w2 ⟨⟨rfl, hblk⟩, hb⟩
  have HB2 := Lib.hid hb
  have HK2 := Lib.hid hblk
  clear hb hblk
  go_wp2_with fail
  refine (toInt64S_any b' m cm f _ (H2.out.below HB2.out) hm).mono ?_
  rintro e w2b ⟨⟨rfl, hblk⟩, hb⟩
  have HB2b : Hid (Below w1.heap.size w1 w2b) := HB2.out.trans (hb.mono HB2.out.size)
  have HK2b : Hid (RcBlk w1.heap.size n rs w2b) := HK2.out.block (hb.block _ HK2.out.lt)
  have HJ2 := Lib.hid hblk
  clear hb hblk HB2 HK2
  have HB2 := HB2b
  have HK2 := HK2b
  clear HB2b HK2b
  go_wp2_with fail
  refine (HS.out _ _ _ _ _ HK2.out.at_ HJ2.out.at_ trivial).mono ?_
  rintro e w3 ⟨⟨a0, c0, rfl, hL⟩, hb⟩
  have S3 : Hid (AbS w1 w3.heap.size l.length a0 c0 (fun j => ((l.getD j 0 : Nat) : Int)) w3) := ⟨HB2.out.trans (hb.mono HB2.out.size), (by
    rcases hL with k | ⟨g, e, k1, k2⟩
    · exact Or.inl k
    · exact Or.inr ⟨g, e, Nat.le_trans HB2.out.size k1, k2⟩), (fun k hk => by
    rcases hL with k0 | ⟨g, e, k1, k2⟩
    · rw [k0.1] at hk; cases hk
    · rw [e] at hk; cases hk; exact k2.lt), Nat.le_trans HB2.out.size hb.size, Nat.le_refl _⟩
  clear hL hb HB2 HK2 HJ2
  go_wp2_with fail
  refine (toReachS_any a n cap rs _ (H.out.below S3.out.old) hn).mono ?_
  rintro e w4 ⟨⟨rfl, hblk⟩, hb⟩
  have S4 := Lib.hid (S3.out.below hb)
  have K4 := Lib.hid hblk
  clear hb hblk S3
  generalize w3.heap.size = X at *
  go_wp2_with fail
  refine (toInt64S_any b' m cm f _ (H2.out.below S4.out.old) hm).mono ?_
  rintro e w4b ⟨⟨rfl, hblk⟩, hb⟩
  have hX2 : X < w4.heap.size := K4.out.lt
  have S4b := Lib.hid (S4.out.below hb)
  have K4b : Hid (RcBlk X n rs w4b) := K4.out.block (hb.block _ K4.out.lt)
  have J4 := Lib.hid hblk
  clear hb hblk S4 K4
  generalize w4.heap.size = X2 at *
  go_wp2_with fail
  refine (HI.out _ _ _ _ _ K4b.out.at_ J4.out.at_ (HG.out.below S4b.out.old)).mono ?_
  rintro e w5 ⟨⟨b, c, rfl, hL⟩, hb⟩
  have hXB : X2 < w4b.heap.size := J4.out.lt
  have S5 := Lib.hid (S4b.out.below hb)
  have K5 : Hid (RcBlk X n rs w5) := K4b.out.block (hb.block _ K4b.out.lt)
  have J5 : Hid (InBlk X2 m f w5) := J4.out.block (hb.block _ J4.out.lt)
  have G5 := Lib.hid hL
  clear hb hL S4b K4b J4
  generalize w4b.heap.size = B at *
  go_wp2_with fail
  refine (eqInt64S_same _ _ _ _ _ _ _ G5.out.at_ S5.out.l0.at_ hl).mono ?_
  rintro e w6 ⟨rfl, hb⟩
  have S6 := Lib.hid (S5.out.below hb)
  have K6 : Hid (RcBlk X n rs w6) := K5.out.block (hb.block _ K5.out.lt)
  have J6 : Hid (InBlk X2 m f w6) := J5.out.block (hb.block _ J5.out.lt)
  have G6 := Lib.hid (G5.out.same (fun k _ hk => hb.block k hk))
  clear hb S5 K5 G5 J5
  go_wp2_with fail
  refine (toReachS_any a n cap rs _ (H.out.below S6.out.old) hn).mono ?_
  rintro e w7 ⟨⟨rfl, hblk⟩, hb⟩
  have S7 := Lib.hid (S6.out.below hb)
  have K7 : Hid (RcBlk X n rs w7) := K6.out.block (hb.block _ K6.out.lt)
  have J7 : Hid (InBlk X2 m f w7) := J6.out.block (hb.block _ J6.out.lt)
  have G7 := Lib.hid (G6.out.same (fun k _ hk => hb.block k hk))
  have L7 := Lib.hid hblk
  clear hb hblk S6 K6 G6 J6
  go_wp2_with fail
  refine (eqReachS_same _ _ n n n rs _ K7.out.at_ L7.out.at_ hn).mono ?_
  rintro e w8 ⟨rfl, hb⟩
  have S8 := Lib.hid (S7.out.below hb)
  have K8 : Hid (RcBlk X n rs w8) := K7.out.block (hb.block _ K7.out.lt)
  have J8 : Hid (InBlk X2 m f w8) := J7.out.block (hb.block _ J7.out.lt)
  have G8 := Lib.hid (G7.out.same (fun k _ hk => hb.block k hk))
  clear hb S7 K7 G7 L7 J7
  go_wp2_with fail
  refine (toInt64S_any b' m cm f _ (H2.out.below S8.out.old) hm).mono ?_
  rintro e w8a ⟨⟨rfl, hblk⟩, hb⟩
  have S8a := Lib.hid (S8.out.below hb)
  have K8a : Hid (RcBlk X n rs w8a) := K8.out.block (hb.block _ K8.out.lt)
  have J8a : Hid (InBlk X2 m f w8a) := J8.out.block (hb.block _ J8.out.lt)
  have G8a := Lib.hid (G8.out.same (fun k _ hk => hb.block k hk))
  have L8a := Lib.hid hblk
  clear hb hblk S8 K8 J8 G8
  go_wp2_with fail
  refine (eqInt64S_same _ _ m m m f _ J8a.out.at_ L8a.out.at_ hm).mono ?_
  rintro e w8b ⟨rfl, hb⟩
  have S8 := Lib.hid (S8a.out.below hb)
  have K8 : Hid (RcBlk X n rs w8b) := K8a.out.block (hb.block _ K8a.out.lt)
  have J8 : Hid (InBlk X2 m f w8b) := J8a.out.block (hb.block _ J8a.out.lt)
  have G8 := Lib.hid (G8a.out.same (fun k _ hk => hb.block k hk))
  clear hb S8a K8a J8a G8a L8a
  go_wp2_with fail
  refine (markReachS_any X n n 1 rs _ K8.out hn (by omega)).mono ?_
  rintro e w9a ⟨rfl, _, ho⟩
  have S9a := Lib.hid (S8.out.chg (fun k h1 h2 => ho.block k h2 (by omega)) ⟨ho.os, ho.tape, ho.output, ho.size⟩)
  have J9a : Hid (InBlk X2 m f w9a) := J8.out.block (ho.block _ J8.out.lt (by omega))
  have G9a := Lib.hid (G8.out.same (fun k h1 h2 => ho.block k h2 (by omega)))
  clear ho S8 K8 G8 J8
  go_wp2_with fail
  refine (markInt64S_any X2 m m (1 + n * 5) f _ J9a.out hm (by omega)).mono ?_
  rintro e w9 ⟨rfl, _, ho⟩
  have S9 := Lib.hid (S9a.out.chg (fun k h1 h2 => ho.block k h2 (by omega)) ⟨ho.os, ho.tape, ho.output, ho.size⟩)
  have G9 := Lib.hid (G9a.out.same (fun k h1 h2 => ho.block k h2 (by omega)))
  clear ho S9a G9a J9a
  obtain ⟨M, hM⟩ : ∃ M : Nat, M = 1 + n * 5 + m := ⟨_, rfl⟩
  rw [← hM]
  have hM0 : ¬ (M : Int) < 0 := by omega
  clear hM
  go_wp2_with fail
  refine (eqInt64S_same _ _ _ _ _ _ _ G9.out.at_ S9.out.l0.at_ hl).mono ?_
  rintro e w10 ⟨rfl, hb⟩
  have S10 := Lib.hid (S9.out.below hb)
  have G10 := Lib.hid (G9.out.same (fun k _ hk => hb.block k hk))
  clear hb S9 G9
  go_wp2_with fail
  refine (markLs _ G10.out hl).mono ?_
  rintro e w11 ⟨rfl, hmk, hc, hc2⟩
  have hown : ∀ k, (Value.slice b l.length c).ownBlock = some k → B ≤ k := fun k hk => by
    rcases G10.out with k0 | ⟨g, e, k1, k2⟩
    · rw [k0.1] at hk; cases hk
    · rw [e] at hk; cases hk; exact k1
  have S11 := Lib.hid (S10.out.chg (fun k h1 h2 => hc k h2 (fun e => by have := hown k e; omega)) hc2)
  have M11 := Lib.hid hmk
  clear hmk hc hc2 hown S10 G10
  obtain ⟨Q, hQ⟩ : ∃ Q : Nat, Q = 1 + l.length := ⟨_, rfl⟩
  have HQ : Hid (1 + l.length = Q) := hQ.symm
  rw [← hQ]
  have hQ0 : ¬ (Q : Int) < 0 := by omega
  clear hQ
  go_wp2_with fail
  refine (heldLs _ M11.out hl).mono ?_
  rintro e w12 ⟨rfl, rfl⟩
  rw [HQ.out]
  go_wp2_with fail
  refine (toReachS_any a n cap rs _ (H.out.below S11.out.old) hn).mono ?_
  rintro e w13 ⟨⟨rfl, hblk⟩, hb⟩
  have S13 := Lib.hid (S11.out.below hb)
  have M13 := Lib.hid (M11.out.same (fun k _ hk => hb.block k hk))
  have K13 := Lib.hid hblk
  clear hb hblk S11 M11
  go_wp2_with fail
  refine (toInt64S_any b' m cm f _ (H2.out.below S13.out.old) hm).mono ?_
  rintro e w13b ⟨⟨rfl, hblk⟩, hb⟩
  have S13b := Lib.hid (S13.out.below hb)
  have M13b := Lib.hid (M13.out.same (fun k _ hk => hb.block k hk))
  have K13b := Lib.hid (K13.out.block (hb.block _ K13.out.lt))
  have J13 := Lib.hid hblk
  clear hb hblk S13 M13 K13
  have S13 := S13b
  have M13 := M13b
  have K13 := K13b
  clear S13b M13b K13b
  go_wp2_with fail
  refine (HI.out _ _ _ _ _ K13.out.at_ J13.out.at_ (HG.out.below S13.out.old)).mono ?_
  rintro e w14 ⟨⟨b2, c2, rfl, hL⟩, hb⟩
  have S14 := Lib.hid (S13.out.below hb)
  have M14 := Lib.hid (M13.out.same (fun k _ hk => hb.block k hk))
  have G14 := Lib.hid hL
  clear hb hL S13 M13 K13 J13
  go_wp2_with fail
  refine (eqInt64S_same _ _ _ _ _ _ _ G14.out.at_ S14.out.l0.at_ hl).mono ?_
  rintro e w15 ⟨rfl, hb⟩
  have S15 := Lib.hid (S14.out.below hb)
  have M15 := Lib.hid (M14.out.same (fun k _ hk => hb.block k hk))
  clear hb S14 M14 G14
  go_wp2_with fail
  refine (heldLs _ M15.out hl).mono ?_
  rintro e w16 ⟨rfl, rfl⟩
  rw [HQ.out]
  go_wp2_with fail
  go_ret
  exact ⟨rfl, S15.out.old⟩
theorem shortL_all (w : World) (a : Option Addr) (n cn : Nat) (rs : Nat → Rv.Rc) (h : RcsIn a n rs w) (hn : n ≤ 9223372036854775807) (b : Option Addr) (m cm : Nat) (f : Nat → Int) (h2 : IntsIn b m f w) (_hm : m ≤ 9223372036854775807) (hg : Et w) :
    Calls Tryd.prog 4 #[.slice a n cn, .slice b m cm] w fun e w' => e = .returned (.bool true) ∧ Below w.heap.size w w' := by
  by_cases h1 : m ≤ 1048576
  · by_cases h3 : n ≤ 1048576
    · exact shortL_law a b n cn m cm rs f w h h2 h3 h1 hg
    · exact shortL_over a b n cn m cm w h1 (by omega) hn
  · exact shortL_long a b n cn m cm w (by omega)
end Go.Proofs.YtdpghhmcibiplaaDoor
