/-
  The law FnExactSewerSpills.
-/
import Derived.Test.YtokbhkcpkilcmaaDoorSwSp2
import Derived.Test.YtokbhkcpkilcmaaDoorSwEx2
import Derived.Test.YtokbhkcpkilcmaaDoorMnEx2
namespace Go.Proofs.YtokbhkcpkilcmaaDoor
open Go.RowKit Go.Deep

/-- A list of numbers that an answer is: its own memory, or none. -/
def LsOwn (B N : Nat) (a : Option Addr) (c : Nat) (f : Nat → Int) (W : World) : Prop := (a = none ∧ N = 0 ∧ c = 0) ∨ ∃ g, a = some ⟨g, 0, none⟩ ∧ B ≤ g ∧ InBlk g N f W
def LsMk (B N : Nat) (a : Option Addr) (c : Nat) (W : World) : Prop := (a = none ∧ N = 0 ∧ c = 0) ∨ ∃ g, a = some ⟨g, 0, none⟩ ∧ B ≤ g ∧ MkBlk 2 g N 1 W
theorem LsOwn.same {B N c : Nat} {a : Option Addr} {f : Nat → Int} {W W' : World} (h : LsOwn B N a c f W) (hb : ∀ k, B ≤ k → k < W.heap.size → W'.heap[k]? = W.heap[k]?) : LsOwn B N a c f W' := by
  rcases h with h | ⟨g, e, h1, h2⟩
  · exact Or.inl h
  · exact Or.inr ⟨g, e, h1, h2.block (hb g h1 h2.lt)⟩
theorem LsMk.same {B N c : Nat} {a : Option Addr} {W W' : World} (h : LsMk B N a c W) (hb : ∀ k, B ≤ k → k < W.heap.size → W'.heap[k]? = W.heap[k]?) : LsMk B N a c W' := by
  rcases h with h | ⟨g, e, h1, h2⟩
  · exact Or.inl h
  · exact Or.inr ⟨g, e, h1, h2.block (hb g h1 h2.lt)⟩
theorem LsOwn.at_ {B N c : Nat} {a : Option Addr} {f : Nat → Int} {W : World} (h : LsOwn B N a c f W) : IntsAt a N f W := by
  rcases h with h | ⟨g, e, h1, h2⟩
  · exact Or.inl h.2.1
  · rw [e]; exact h2.at_
theorem ls_own {B : Nat} {v : Value} {l : List Nat} {W : World} (h : W.ownsRow B 2 1 v l.length (natVs l)) : ∃ a c, v = .slice a l.length c ∧ LsOwn B l.length a c (fun j => ((l.getD j 0 : Nat) : Int)) W := by
  have h' : W.ownsRow B 2 1 v (l.map (fun (k : Nat) => (k : Int))).length ((l.map (fun (k : Nat) => (k : Int))).map (Value.int .i64)) := by
    rw [List.length_map, List.map_map]; exact h
  rcases own_ints h' with ⟨e1, e2⟩ | ⟨g, cap, e1, e2, e3⟩
  · have : l = [] := by simpa using e2
    subst this
    exact ⟨none, 0, e1, Or.inl ⟨rfl, rfl, rfl⟩⟩
  · rw [List.length_map] at e1 e3
    refine ⟨_, _, e1, Or.inr ⟨g, rfl, e2, e3.congr (fun j hj => ?_)⟩⟩
    unfold inList
    simp [List.getD, hj]
theorem markLs {B N c : Nat} {a : Option Addr} {f : Nat → Int} (w : World) (h : LsOwn B N a c f w) (hn : N ≤ 1048576) :
    Calls Tryd.prog 16 #[.slice a N c, .int .i64 1] w fun e w' => e = .returned (.int .i64 ((1 + N : Nat) : Int)) ∧ LsMk B N a c w' ∧ ((∀ k, k < w.heap.size → (Value.slice a N c).ownBlock ≠ some k → w'.heap[k]? = w.heap[k]?) ∧ w'.os = w.os ∧ w'.tape = w.tape ∧ w'.output = w.output ∧ w.heap.size ≤ w'.heap.size) := by
  rcases h with ⟨rfl, rfl, rfl⟩ | ⟨g, rfl, h1, h2⟩
  · refine (markInt64S_nil 1 w).mono ?_
    rintro e w' ⟨rfl, rfl⟩
    exact ⟨rfl, Or.inl ⟨rfl, rfl, rfl⟩, fun _ _ _ => rfl, rfl, rfl, rfl, Nat.le_refl _⟩
  · refine (markInt64S_any g N c 1 f w h2 hn (by omega)).mono ?_
    rintro e w' ⟨rfl, hm, ho⟩
    exact ⟨rfl, Or.inr ⟨g, rfl, h1, hm⟩, fun k hk hne => ho.block k hk (fun e => hne (by rw [e]; rfl)), ho.os, ho.tape, ho.output, ho.size⟩
theorem heldLs {B N c : Nat} {a : Option Addr} (w : World) (h : LsMk B N a c w) (hn : N ≤ 1048576) :
    Calls Tryd.prog 25 #[.slice a N c, .int .i64 1] w fun e w' => e = .returned (.int .i64 ((1 + N : Nat) : Int)) ∧ w' = w := by
  rcases h with ⟨rfl, rfl, rfl⟩ | ⟨g, rfl, h1, h2⟩
  · exact heldInt64S_nil 1 w
  · exact heldInt64S_any g N c 1 w h2 hn (by omega)

/-- A list of lists of the call's own, its blocks between two numbers. -/
def LsJ (g B n : Nat) (LN : Nat → Nat) (L : Nat → Nat → Int) (w : World) : Prop := ∃ h : Nat → Nat, w.rowIs g 23 n (fun i => .slice (some ⟨h i, 0, none⟩) (LN i) (LN i)) ∧ (∀ i, i < n → IsBlk 2 (h i) (LN i) (L i) w) ∧ (∀ i, i < n → g < h i ∧ h i < B) ∧ ∀ i j, i < j → j < n → h i < h j
theorem LsJ.same {g B n : Nat} {LN : Nat → Nat} {L : Nat → Nat → Int} {w w' : World} (h : LsJ g B n LN L w) (hb : ∀ k, g ≤ k → k < w.heap.size → w'.heap[k]? = w.heap[k]?) (_ : w.heap.size ≤ w'.heap.size) : LsJ g B n LN L w' := by
  obtain ⟨h, h1, h2, h3, h4⟩ := h
  exact ⟨h, h1.of_block (hb _ (Nat.le_refl _) h1.lt), fun i hi => (h2 i hi).block (hb _ (by have := h3 i hi; omega) (h2 i hi).lt), h3, h4⟩
theorem LsJ.at_ {g B n : Nat} {LN : Nat → Nat} {L : Nat → Nat → Int} {w : World} (h : LsJ g B n LN L w) : LsAt (some ⟨g, 0, none⟩) n LN L w := by
  obtain ⟨h, h1, h2, h3, h4⟩ := h
  exact Or.inr ⟨g, rfl, fun i hi => ⟨_, _, h1.cell hi, (h2 i hi).at_⟩⟩
theorem ss_lsj {g n : Nat} {LN : Nat → Nat} {L : Nat → Nat → Int} {w : World} (h : TSS g n n LN L w) : LsJ g w.heap.size n LN L w := by
  obtain ⟨F, h, h1, h2, h3⟩ := h
  exact ⟨h, row_congr h1 (fun i hi => (h2 i hi).1), fun i hi => (h2 i hi).2.1, fun i hi => ⟨(h2 i hi).2.2, (h2 i hi).2.1.lt⟩, h3⟩
theorem ss_at {g n : Nat} {LN : Nat → Nat} {L : Nat → Nat → Int} {w : World} (h : TSS g n n LN L w) : LsAt (some ⟨g, 0, none⟩) n LN L w := (ss_lsj h).at_
theorem lsj_mark {g B n : Nat} {LN : Nat → Nat} {L : Nat → Nat → Int} (c k : Nat) (w : World) (h : LsJ g B n LN L w) (hn : n ≤ 1048576) (hk : k ≤ 8388608) (ht : Mn.tot LN n ≤ 1048576) :
    Calls Tryd.prog 24 #[.slice (some ⟨g, 0, none⟩) n c, .int .i64 k] w fun e w' => e = .returned (.int .i64 ((k + Mn.tot LN n : Nat) : Int)) ∧ OnlyR (g + 1) B w w' := by
  obtain ⟨h, h1, h2, h3, h4⟩ := h
  exact mmarkSS_any g n c k B h LN L w h1 h2 h3 h4 hn hk ht
/-- Storms out of a list of lists. -/
def rainsOf (LN : Nat → Nat) (L : Nat → Nat → Int) : Nat → Sw.Rain := fun k => ⟨LN k, L k⟩
theorem rains_at {a : Option Addr} {n : Nat} {LN : Nat → Nat} {L : Nat → Nat → Int} {w : World} (h : LsAt a n LN L w) : RainsAt a n (rainsOf LN L) w := h
/-- A function that answers sewers and storms by this list, in memory of its own. -/
def AnsSh (G : World → Prop) (fn : Nat) (n m : Nat) (rs : Nat → Sw.Rc) (LN : Nat → Nat) (L : Nat → Nat → Int) (l : List Nat) : Prop :=
  ∀ (a b : Option Addr) (cn cm : Nat) (w : World), RcsAt a n rs w → LsAt b m LN L w → G w → Calls Tryd.prog fn #[.slice a n cn, .slice b m cm] w fun e w' => (∃ b c, e = .returned (.slice b l.length c) ∧ LsOwn w.heap.size l.length b c (fun j => ((l.getD j 0 : Nat) : Int)) w') ∧ Below w.heap.size w w'
theorem spillF_len (n M : Nat) (rs : Nat → Sw.Rc) (q : Nat → Sw.Rain) : (Sw.spillF n M rs q).length ≤ 1048576 := by
  cases h : Sw.runF n M rs q with
  | none => rw [spillF_none h]; simp
  | some t =>
    rw [spillF_some h]
    have := spills_len t.tk n
    have := (runF_some h).1.1.2
    omega
theorem short_both (n m : Nat) (rs : Nat → Sw.Rc) (LN : Nat → Nat) (L : Nat → Nat → Int) : ∃ l : List Nat, l.length ≤ 1048576 ∧ AnsSh (fun _ => ∀ i, i < m → LN i ≤ 4194304) 20 n m rs LN L l ∧ AnsSh (fun w => Et w ∧ ∀ i, i < m → LN i ≤ 4194304) 22 n m rs LN L l := by
  refine ⟨Sw.spillF n m rs (rainsOf LN L), spillF_len _ _ _ _, fun a b cn cm w h1 h2 _ => ?_, fun a b cn cm w h1 h2 hg => ?_⟩
  · refine (specSpills_any a b n cn m cm rs (rainsOf LN L) w h1 (rains_at h2)).mono ?_
    rintro e w' ⟨⟨v, rfl, ho⟩, hb⟩
    obtain ⟨a, c, rfl, h1⟩ := ls_own ho
    exact ⟨⟨a, c, rfl, h1⟩, hb⟩
  · refine (implSpills_any a b n cn m cm rs (rainsOf LN L) w h1 (rains_at h2) hg.2 hg.1).mono ?_
    rintro e w' ⟨⟨v, rfl, ho⟩, hb⟩
    obtain ⟨a, c, rfl, h1⟩ := ls_own ho
    exact ⟨⟨a, c, rfl, h1⟩, hb⟩

set_option maxRecDepth 100000 in
set_option maxHeartbeats 4000000 in
theorem shortL_over (a b : Option Addr) (n cn m cm : Nat) (w : World) (hn : 1048576 < n) (hn2 : n ≤ 9223372036854775807) :
    Calls Tryd.prog 4 #[.slice a n cn, .slice b m cm] w fun e w' => e = .returned (.bool true) ∧ Below w.heap.size w w' := by
  go_enter Tryd.func4, Tryd.ntmps4
  go_wp2_with fail
  refine (sz_over a n cn _ hn hn2).mono ?_
  rintro e w1 ⟨rfl, rfl⟩
  go_wp2_with fail
  go_ret
  exact ⟨rfl, Below.refl _ _⟩

/-- What stands from step to step: the model's list below X, the old memory. -/
structure AbS (w : World) (X N : Nat) (a0 : Option Addr) (c0 : Nat) (F : Nat → Int) (W : World) : Prop where
  old : Below w.heap.size w W
  l0 : LsOwn w.heap.size N a0 c0 F W
  lo : ∀ k, (Value.slice a0 N c0).ownBlock = some k → k < X
  hX : w.heap.size ≤ X ∧ X ≤ W.heap.size
theorem AbS.below {w : World} {X N c0 : Nat} {a0 : Option Addr} {F : Nat → Int} {W W' : World} (h : AbS w X N a0 c0 F W) (hb : Below W.heap.size W W') : AbS w X N a0 c0 F W' :=
  ⟨h.old.trans (hb.mono h.old.size), h.l0.same (fun k _ hk => hb.block k hk), h.lo, h.hX.1, Nat.le_trans h.hX.2 hb.size⟩
theorem AbS.chg {w : World} {X N c0 : Nat} {a0 : Option Addr} {F : Nat → Int} {W W' : World} (h : AbS w X N a0 c0 F W) (h1 : ∀ k, k < X → k < W.heap.size → W'.heap[k]? = W.heap[k]?) (h2 : W'.os = W.os ∧ W'.tape = W.tape ∧ W'.output = W.output ∧ W.heap.size ≤ W'.heap.size) : AbS w X N a0 c0 F W' := by
  refine ⟨⟨h2.1.trans h.old.os, h2.2.1.trans h.old.tape, h2.2.2.1.trans h.old.output, Nat.le_trans h.old.size h2.2.2.2, fun k hk => (h1 k (by have := h.hX.1; omega) (by have := h.old.size; omega)).trans (h.old.block k hk)⟩, ?_, h.lo, h.hX.1, Nat.le_trans h.hX.2 h2.2.2.2⟩
  rcases h.l0 with k | ⟨g, e, k1, k2⟩
  · exact Or.inl k
  · exact Or.inr ⟨g, e, k1, k2.block (h1 g (h.lo g (by rw [e]; rfl)) k2.lt)⟩

set_option maxRecDepth 100000 in
set_option maxHeartbeats 8000000 in
theorem shortL_law (a b' : Option Addr) (n cap m cm : Nat) (rs : Nat → Sw.Rc) (LN : Nat → Nat) (L : Nat → Nat → Int) (w : World) (h : RcsIn a n rs w) (h2 : LsIn b' m LN L w) (hm9 : m ≤ 9223372036854775807) (hL9 : ∀ i, i < m → LN i ≤ 9223372036854775807) (hn : n ≤ 1048576) (hg : Et w) :
    Calls Tryd.prog 4 #[.slice a n cap, .slice b' m cm] w fun e w' => e = .returned (.bool true) ∧ Below w.heap.size w w' := by
  obtain ⟨l, hl, hS, hI⟩ := short_both n m rs LN L
  have H := Lib.hid h
  have H2 := Lib.hid h2
  have HG := Lib.hid hg
  have HS := Lib.hid hS
  have HI := Lib.hid hI
  have hz : ¬ ((1048576 - n : Nat) : Int) < 0 := by omega
  have HL9 := Lib.hid hL9
  clear hL9
  clear h h2 hg hS hI
  go_enter Tryd.func4, Tryd.ntmps4
  go_wp2_with fail
  refine (sz_in a n cap _ hn).mono ?_
  rintro e w1 ⟨rfl, rfl⟩
  go_wp2_with fail
  refine (mszSS_any b' m cm LN L (1048576 - n) _ H2.out hm9 (by omega) HL9.out).mono ?_
  rintro e w1b ⟨⟨z, rfl, hz9⟩, hw⟩
  subst w1b
  rcases hz9 with hz9 | ⟨hz8, rfl⟩
  · go_wp2_with fail
    go_ret
    exact ⟨rfl, Below.refl _ _⟩
  have hm : m ≤ 1048576 := by omega
  have ht8 : Mn.tot LN m ≤ 1048576 := by omega
  have HT8 := Lib.hid ht8
  have HLM : Hid (∀ i, i < m → LN i ≤ 1048576) := fun i hi => Nat.le_trans (Mn.le_tot LN hi) ht8
  have hz7 : ¬ (((1048576 - n) - (m + Mn.tot LN m) : Nat) : Int) < 0 := by omega
  clear hz8 ht8
  go_wp2_with fail
  clear hz7
  refine (toReachS_any a n cap rs _ H.out hn).mono ?_
  rintro e w2 ⟨⟨rfl, hblk⟩, hb⟩
  have HB2 := Lib.hid hb
  have HK2 := Lib.hid hblk
  clear hb hblk
  go_wp2_with fail
  refine (mtoSS_any b' m cm LN L _ (H2.out.below HB2.out) hm HLM.out).mono ?_
  rintro e w2b ⟨⟨rfl, hblk⟩, hb⟩
  have HB2b : Hid (Below w1.heap.size w1 w2b) := HB2.out.trans (hb.mono HB2.out.size)
  have HK2b : Hid (RcBlk w1.heap.size n rs w2b) := HK2.out.block (hb.block _ HK2.out.lt)
  have HJ2 := Lib.hid hblk
  clear hb hblk HB2 HK2
  have HB2 := HB2b
  have HK2 := HK2b
  clear HB2b HK2b
  go_wp2_with fail
  refine (HS.out _ _ _ _ _ HK2.out.at_ (ss_at HJ2.out) (fun i hi => Nat.le_trans (HLM.out i hi) (by omega))).mono ?_
  rintro e w3 ⟨⟨a0, c0, rfl, hL⟩, hb⟩
  have S3 : Hid (AbS w1 w3.heap.size l.length a0 c0 (fun j => ((l.getD j 0 : Nat) : Int)) w3) := ⟨HB2.out.trans (hb.mono HB2.out.size), (by
    rcases hL with k | ⟨g, e, k1, k2⟩
    · exact Or.inl k
    · exact Or.inr ⟨g, e, Nat.le_trans HB2.out.size k1, k2⟩), (fun k hk => by
    rcases hL with k0 | ⟨g, e, k1, k2⟩
    · rw [k0.1] at hk; cases hk
    · rw [e] at hk; cases hk; exact k2.lt), Nat.le_trans HB2.out.size hb.size, Nat.le_refl _⟩
  clear hL hb HB2 HK2 HJ2
  go_wp2_with fail
  refine (toReachS_any a n cap rs _ (H.out.below S3.out.old) hn).mono ?_
  rintro e w4 ⟨⟨rfl, hblk⟩, hb⟩
  have S4 := Lib.hid (S3.out.below hb)
  have K4 := Lib.hid hblk
  clear hb hblk S3
  generalize w3.heap.size = X at *
  go_wp2_with fail
  refine (mtoSS_any b' m cm LN L _ (H2.out.below S4.out.old) hm HLM.out).mono ?_
  rintro e w4b ⟨⟨rfl, hblk⟩, hb⟩
  have hX2 : X < w4.heap.size := K4.out.lt
  have S4b := Lib.hid (S4.out.below hb)
  have K4b : Hid (RcBlk X n rs w4b) := K4.out.block (hb.block _ K4.out.lt)
  have J4 := Lib.hid hblk
  clear hb hblk S4 K4
  generalize w4.heap.size = X2 at *
  go_wp2_with fail
  refine (HI.out _ _ _ _ _ K4b.out.at_ (ss_at J4.out) ⟨HG.out.below S4b.out.old, fun i hi => Nat.le_trans (HLM.out i hi) (by omega)⟩).mono ?_
  rintro e w5 ⟨⟨b, c, rfl, hL⟩, hb⟩
  have hXB : X2 < w4b.heap.size := J4.out.lt
  have J4b := Lib.hid (ss_lsj J4.out)
  have S5 := Lib.hid (S4b.out.below hb)
  have K5 : Hid (RcBlk X n rs w5) := K4b.out.block (hb.block _ K4b.out.lt)
  have J5 : Hid (LsJ X2 w4b.heap.size m LN L w5) := J4b.out.same (fun k _ hk => hb.block k hk) hb.size
  have G5 := Lib.hid hL
  clear hb hL S4b K4b J4 J4b
  generalize w4b.heap.size = B at *
  go_wp2_with fail
  refine (eqInt64S_same _ _ _ _ _ _ _ G5.out.at_ S5.out.l0.at_ hl).mono ?_
  rintro e w6 ⟨rfl, hb⟩
  have S6 := Lib.hid (S5.out.below hb)
  have K6 : Hid (RcBlk X n rs w6) := K5.out.block (hb.block _ K5.out.lt)
  have J6 : Hid (LsJ X2 B m LN L w6) := J5.out.same (fun k _ hk => hb.block k hk) hb.size
  have G6 := Lib.hid (G5.out.same (fun k _ hk => hb.block k hk))
  clear hb S5 K5 G5 J5
  go_wp2_with fail
  refine (toReachS_any a n cap rs _ (H.out.below S6.out.old) hn).mono ?_
  rintro e w7 ⟨⟨rfl, hblk⟩, hb⟩
  have S7 := Lib.hid (S6.out.below hb)
  have K7 : Hid (RcBlk X n rs w7) := K6.out.block (hb.block _ K6.out.lt)
  have J7 : Hid (LsJ X2 B m LN L w7) := J6.out.same (fun k _ hk => hb.block k hk) hb.size
  have G7 := Lib.hid (G6.out.same (fun k _ hk => hb.block k hk))
  have L7 := Lib.hid hblk
  clear hb hblk S6 K6 G6 J6
  go_wp2_with fail
  refine (eqReachS_same _ _ n n n rs _ K7.out.at_ L7.out.at_ hn).mono ?_
  rintro e w8 ⟨rfl, hb⟩
  have S8 := Lib.hid (S7.out.below hb)
  have K8 : Hid (RcBlk X n rs w8) := K7.out.block (hb.block _ K7.out.lt)
  have J8 : Hid (LsJ X2 B m LN L w8) := J7.out.same (fun k _ hk => hb.block k hk) hb.size
  have G8 := Lib.hid (G7.out.same (fun k _ hk => hb.block k hk))
  clear hb S7 K7 G7 L7 J7
  go_wp2_with fail
  refine (mtoSS_any b' m cm LN L _ (H2.out.below S8.out.old) hm HLM.out).mono ?_
  rintro e w8a ⟨⟨rfl, hblk⟩, hb⟩
  have S8a := Lib.hid (S8.out.below hb)
  have K8a : Hid (RcBlk X n rs w8a) := K8.out.block (hb.block _ K8.out.lt)
  have J8a : Hid (LsJ X2 B m LN L w8a) := J8.out.same (fun k _ hk => hb.block k hk) hb.size
  have G8a := Lib.hid (G8.out.same (fun k _ hk => hb.block k hk))
  have L8a := Lib.hid hblk
  clear hb hblk S8 K8 J8 G8
  go_wp2_with fail
  refine (meqSS_same _ _ m m m LN L _ J8a.out.at_ (ss_at L8a.out) hm HLM.out).mono ?_
  rintro e w8b ⟨rfl, hb⟩
  have S8 := Lib.hid (S8a.out.below hb)
  have K8 : Hid (RcBlk X n rs w8b) := K8a.out.block (hb.block _ K8a.out.lt)
  have J8 : Hid (LsJ X2 B m LN L w8b) := J8a.out.same (fun k _ hk => hb.block k hk) hb.size
  have G8 := Lib.hid (G8a.out.same (fun k _ hk => hb.block k hk))
  clear hb S8a K8a J8a G8a L8a
  go_wp2_with fail
  refine (markReachS_any X n n 1 rs _ K8.out hn (by omega)).mono ?_
  rintro e w9a ⟨rfl, _, ho⟩
  have S9a := Lib.hid (S8.out.chg (fun k h1 h2 => ho.block k h2 (by omega)) ⟨ho.os, ho.tape, ho.output, ho.size⟩)
  have J9a : Hid (LsJ X2 B m LN L w9a) := J8.out.same (fun k h1 hk => ho.block k hk (by omega)) ho.size
  have G9a := Lib.hid (G8.out.same (fun k h1 h2 => ho.block k h2 (by omega)))
  clear ho S8 K8 G8 J8
  go_wp2_with fail
  refine (lsj_mark m (1 + n * 6) _ J9a.out hm (by omega) HT8.out).mono ?_
  rintro e w9 ⟨rfl, ho⟩
  have S9 := Lib.hid (S9a.out.chg (fun k h1 h2 => ho.block k h2 (Or.inl (by omega))) ⟨ho.os, ho.tape, ho.output, ho.size⟩)
  have G9 := Lib.hid (G9a.out.same (fun k h1 h2 => ho.block k h2 (Or.inr h1)))
  clear ho S9a G9a J9a
  obtain ⟨M, hM⟩ : ∃ M : Nat, M = 1 + n * 6 + Mn.tot LN m := ⟨_, rfl⟩
  rw [← hM]
  have hM0 : ¬ (M : Int) < 0 := by omega
  clear hM
  go_wp2_with fail
  refine (eqInt64S_same _ _ _ _ _ _ _ G9.out.at_ S9.out.l0.at_ hl).mono ?_
  rintro e w10 ⟨rfl, hb⟩
  have S10 := Lib.hid (S9.out.below hb)
  have G10 := Lib.hid (G9.out.same (fun k _ hk => hb.block k hk))
  clear hb S9 G9
  go_wp2_with fail
  refine (markLs _ G10.out hl).mono ?_
  rintro e w11 ⟨rfl, hmk, hc, hc2⟩
  have hown : ∀ k, (Value.slice b l.length c).ownBlock = some k → B ≤ k := fun k hk => by
    rcases G10.out with k0 | ⟨g, e, k1, k2⟩
    · rw [k0.1] at hk; cases hk
    · rw [e] at hk; cases hk; exact k1
  have S11 := Lib.hid (S10.out.chg (fun k h1 h2 => hc k h2 (fun e => by have := hown k e; omega)) hc2)
  have M11 := Lib.hid hmk
  clear hmk hc hc2 hown S10 G10
  obtain ⟨Q, hQ⟩ : ∃ Q : Nat, Q = 1 + l.length := ⟨_, rfl⟩
  have HQ : Hid (1 + l.length = Q) := hQ.symm
  rw [← hQ]
  have hQ0 : ¬ (Q : Int) < 0 := by omega
  clear hQ
  go_wp2_with fail
  refine (heldLs _ M11.out hl).mono ?_
  rintro e w12 ⟨rfl, rfl⟩
  rw [HQ.out]
  go_wp2_with fail
  refine (toReachS_any a n cap rs _ (H.out.below S11.out.old) hn).mono ?_
  rintro e w13 ⟨⟨rfl, hblk⟩, hb⟩
  have S13 := Lib.hid (S11.out.below hb)
  have M13 := Lib.hid (M11.out.same (fun k _ hk => hb.block k hk))
  have K13 := Lib.hid hblk
  clear hb hblk S11 M11
  go_wp2_with fail
  refine (mtoSS_any b' m cm LN L _ (H2.out.below S13.out.old) hm HLM.out).mono ?_
  rintro e w13b ⟨⟨rfl, hblk⟩, hb⟩
  have S13b := Lib.hid (S13.out.below hb)
  have M13b := Lib.hid (M13.out.same (fun k _ hk => hb.block k hk))
  have K13b := Lib.hid (K13.out.block (hb.block _ K13.out.lt))
  have J13 := Lib.hid hblk
  clear hb hblk S13 M13 K13
  have S13 := S13b
  have M13 := M13b
  have K13 := K13b
  clear S13b M13b K13b
  go_wp2_with fail
  refine (HI.out _ _ _ _ _ K13.out.at_ (ss_at J13.out) ⟨HG.out.below S13.out.old, fun i hi => Nat.le_trans (HLM.out i hi) (by omega)⟩).mono ?_
  rintro e w14 ⟨⟨b2, c2, rfl, hL⟩, hb⟩
  have S14 := Lib.hid (S13.out.below hb)
  have M14 := Lib.hid (M13.out.same (fun k _ hk => hb.block k hk))
  have G14 := Lib.hid hL
  clear hb hL S13 M13 K13 J13
  go_wp2_with fail
  refine (eqInt64S_same _ _ _ _ _ _ _ G14.out.at_ S14.out.l0.at_ hl).mono ?_
  rintro e w15 ⟨rfl, hb⟩
  have S15 := Lib.hid (S14.out.below hb)
  have M15 := Lib.hid (M14.out.same (fun k _ hk => hb.block k hk))
  clear hb S14 M14 G14
  go_wp2_with fail
  refine (heldLs _ M15.out hl).mono ?_
  rintro e w16 ⟨rfl, rfl⟩
  rw [HQ.out]
  go_wp2_with fail
  go_ret
  exact ⟨rfl, S15.out.old⟩
theorem shortL_all (w : World) (a : Option Addr) (n cn : Nat) (rs : Nat → Sw.Rc) (h : RcsIn a n rs w) (hn : n ≤ 9223372036854775807) (b : Option Addr) (m cm : Nat) (LN : Nat → Nat) (L : Nat → Nat → Int) (h2 : LsIn b m LN L w) (hm : m ≤ 9223372036854775807) (hl : ∀ i, i < m → LN i ≤ 9223372036854775807) (hg : Et w) :
    Calls Tryd.prog 4 #[.slice a n cn, .slice b m cm] w fun e w' => e = .returned (.bool true) ∧ Below w.heap.size w w' := by
  by_cases h3 : n ≤ 1048576
  · exact shortL_law a b n cn m cm rs LN L w h h2 hm hl h3 hg
  · exact shortL_over a b n cn m cm w (by omega) hn
end Go.Proofs.YtokbhkcpkilcmaaDoor
