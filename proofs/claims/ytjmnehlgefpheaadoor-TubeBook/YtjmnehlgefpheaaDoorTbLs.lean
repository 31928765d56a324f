/-
  The laws' marks of tubes and of answers; what stands in a law between its calls.
-/
import Derived.Test.YtjmnehlgefpheaaDoorTbEx
import Derived.Test.YtjmnehlgefpheaaDoorTbI1
namespace Go.Proofs.YtjmnehlgefpheaaDoor
open Go.RowKit Go.Deep

theorem nheldPs_any (B n c k : Nat) (a : Option Addr) (w : World) (h : OwL 38 B (n * 3) a c (mk1 k) w) (hn : n ≤ 1048576) (hk : k ≤ 16777216) :
    Calls Tryd.prog 39 #[.slice a n c, .int .i64 k] w fun e w' => e = .returned (.int .i64 ((k + n * 3 : Nat) : Int)) ∧ w' = w := by
  rcases h with ⟨rfl, h2, rfl⟩ | ⟨g, rfl, h1, h2⟩
  · obtain rfl : n = 0 := by omega
    exact nheldParcelS_nil k w
  · exact nheldParcelS_any g n c k w h2 hn hk
set_option maxRecDepth 100000 in
set_option maxHeartbeats 2000000 in
theorem markTube_any (B : Nat) (r : Int) (a : Option Addr) (n c k : Nat) (f : Nat → Int) (w : World) (h : OwL 38 B (n * 3) a c f w) (hn : n ≤ 1048576) (hk : k ≤ 16777216) :
    Calls Tryd.prog 21 #[tbV r a n c, .int .i64 k] w fun e w' => e = .returned (.int .i64 ((k + n * 3 : Nat) : Int)) ∧ OwL 38 B (n * 3) a c (mk1 k) w' ∧ OnlyO a w w' := by
  have hB : Below w.heap.size w (w.alloc (.cells #[.int .i64 r, .slice a n c] 25)) := nbel_alloc _ _
  have H := Lib.hid (h.below hB)
  have HB := Lib.hid hB
  clear h hB
  go_enter Tryd.func21, Tryd.ntmps21
  go_wp2_with fail
  refine (nmarkPs_any B n c k a f _ H.out (fun e => H.out.none_ e) hn hk).mono ?_
  rintro e w1 ⟨rfl, h1, h2⟩
  have H1 := Lib.hid h1
  have H2 : Hid (OnlyO a w w1) := ⟨h2.os.trans HB.out.os, h2.tape.trans HB.out.tape, h2.output.trans HB.out.output, Nat.le_trans HB.out.size h2.size, fun j hj hne => (h2.block j (Nat.lt_of_lt_of_le hj HB.out.size) hne).trans (HB.out.block j hj)⟩
  clear h1 h2
  go_wp2_with fail
  go_ret
  exact ⟨rfl, H1.out, H2.out⟩
--@body laws.heldTube
set_option maxRecDepth 100000 in
set_option maxHeartbeats 2000000 in
theorem heldTube_any (B : Nat) (r : Int) (a : Option Addr) (n c k : Nat) (w : World) (h : OwL 38 B (n * 3) a c (mk1 k) w) (hn : n ≤ 1048576) (hk : k ≤ 16777216) :
    Calls Tryd.prog 38 #[tbV r a n c, .int .i64 k] w fun e w' => e = .returned (.int .i64 ((k + n * 3 : Nat) : Int)) ∧ Below w.heap.size w w' := by
  have hB : Below w.heap.size w (w.alloc (.cells #[.int .i64 r, .slice a n c] 25)) := nbel_alloc _ _
  have H := Lib.hid (h.below hB)
  have HB := Lib.hid hB
  obtain ⟨K, hK⟩ : ∃ K : Nat, K = k + n * 3 := ⟨_, rfl⟩
  have hz : ¬ (K : Int) < 0 := by omega
  have HK := Lib.hid hK
  clear h hB hK
  go_enter Tryd.func38, Tryd.ntmps38
  go_wp2_with fail
  refine (nheldPs_any B n c k a _ H.out hn hk).mono ?_
  rintro e w1 ⟨rfl, e1⟩
  subst w1
  rw [← HK.out]
  go_wp2_with fail
  go_ret
  exact ⟨by rw [← HK.out]; rfl, HB.out⟩
--@end
/-- The lists of an answer: its own, and two. -/
structure TwL (lo hi : Nat) (a : Option Addr) (n c : Nat) (f : Nat → Int) (p : Option Addr) (m d : Nat) (g : Nat → Int) (W : World) : Prop where
  x : OwL 38 0 (n * 3) a c f W
  y : OwL 38 0 (m * 3) p d g W
  bx : ∀ k, a = some ⟨k, 0, none⟩ → lo ≤ k ∧ k < hi
  by_ : ∀ k, p = some ⟨k, 0, none⟩ → lo ≤ k ∧ k < hi
  ne : ∀ k, a = some ⟨k, 0, none⟩ → p ≠ some ⟨k, 0, none⟩
theorem TwL.same {lo hi n c m d : Nat} {a p : Option Addr} {f g : Nat → Int} {W W' : World} (h : TwL lo hi a n c f p m d g W) (hb : ∀ k, lo ≤ k → k < hi → k < W.heap.size → W'.heap[k]? = W.heap[k]?) : TwL lo hi a n c f p m d g W' :=
  ⟨h.x.keep (fun k e hk => hb k (h.bx k e).1 (h.bx k e).2 hk), h.y.keep (fun k e hk => hb k (h.by_ k e).1 (h.by_ k e).2 hk), h.bx, h.by_, h.ne⟩
theorem TwL.one {lo hi n c : Nat} {a : Option Addr} {f g : Nat → Int} {W : World} (h : OwL 38 lo (n * 3) a c f W) (hh : W.heap.size ≤ hi) : TwL lo hi a n c f none 0 0 g W :=
  ⟨h.low (Nat.zero_le _), Or.inl ⟨rfl, rfl, rfl⟩, fun k e => ⟨(h.lt e).1, by have := (h.lt e).2; omega⟩, fun k e => (by cases e), fun k _ => (by simp)⟩
/-- What stands in a law between its calls: the argument, the model's answer, the argument's copy, the program's answer. -/
structure Ls (s s6 g7 s7 s8 : Nat) (T : TypeId) (wd : Nat) (A R6 R7 R8 : Nat → Value) (n7 : Nat) (f7 : Nat → Int) (E6 E8 : World → Prop) (w W : World) : Prop where
  arg : W.rowIs s 41 2 A
  r6 : W.rowIs s6 T wd R6
  t6 : E6 W
  r7 : W.rowIs s7 25 2 R7
  k7 : IsBlk 38 g7 (n7 * 3) f7 W
  r8 : W.rowIs s8 T wd R8
  t8 : E8 W
  o1 : s < s6
  o2 : s6 < g7
  o3 : g7 < s7
  o4 : s7 < s8
  bel : Below s w W
/-- Lists between two places are kept while these are. -/
def Stab (lo hi : Nat) (E : World → Prop) : Prop := ∀ W W', E W → (∀ k, lo ≤ k → k < hi → k < W.heap.size → W'.heap[k]? = W.heap[k]?) → E W'
theorem TwL.stab {lo hi n c m d : Nat} {a p : Option Addr} {f g : Nat → Int} : Stab lo hi (TwL lo hi a n c f p m d g) := fun _ _ h hb => h.same hb
theorem Ls.same {s s6 g7 s7 s8 : Nat} {T : TypeId} {wd : Nat} {A R6 R7 R8 : Nat → Value} {n7 : Nat} {f7 : Nat → Int} {E6 E8 : World → Prop} {w W W' : World} (h : Ls s s6 g7 s7 s8 T wd A R6 R7 R8 n7 f7 E6 E8 w W) (h6 : Stab (s + 1) s6 E6) (h8 : Stab (s7 + 1) s8 E8) (hb : Below W.heap.size W W') : Ls s s6 g7 s7 s8 T wd A R6 R7 R8 n7 f7 E6 E8 w W' :=
  ⟨nrow_below h.arg hb, nrow_below h.r6 hb, h6 _ _ h.t6 (fun k _ _ hk => hb.block k hk), nrow_below h.r7 hb, h.k7.below hb, nrow_below h.r8 hb, h8 _ _ h.t8 (fun k _ _ hk => hb.block k hk), h.o1, h.o2, h.o3, h.o4, h.bel.trans (hb.mono (Nat.le_of_lt h.arg.lt))⟩
/-- The argument's copy bears marks. -/
theorem Ls.mark7 {s s6 g7 s7 s8 : Nat} {T : TypeId} {wd : Nat} {A R6 R7 R8 : Nat → Value} {n7 : Nat} {f7 f7' : Nat → Int} {E6 E8 : World → Prop} {w W W' : World} (h : Ls s s6 g7 s7 s8 T wd A R6 R7 R8 n7 f7 E6 E8 w W) (h6 : Stab (s + 1) s6 E6) (h8 : Stab (s7 + 1) s8 E8)
    (hk : IsBlk 38 g7 (n7 * 3) f7' W') (ho : OnlyO (some ⟨g7, 0, none⟩) W W') : Ls s s6 g7 s7 s8 T wd A R6 R7 R8 n7 f7' E6 E8 w W' := by
  have o1 := h.o1; have o2 := h.o2; have o3 := h.o3; have o4 := h.o4
  have hb : ∀ k, k < W.heap.size → k ≠ g7 → W'.heap[k]? = W.heap[k]? := fun k hk hne => ho.block k hk (fun e => hne (by cases e; rfl))
  exact ⟨h.arg.of_block (hb _ h.arg.lt (by omega)), h.r6.of_block (hb _ h.r6.lt (by omega)), h6 _ _ h.t6 (fun k _ h1 hk => hb k hk (by omega)), h.r7.of_block (hb _ h.r7.lt (by omega)), hk, h.r8.of_block (hb _ h.r8.lt (by omega)), h8 _ _ h.t8 (fun k h1 _ hk => hb k hk (by omega)), o1, o2, o3, o4, h.bel.trans ⟨ho.os, ho.tape, ho.output, ho.size, fun k hk => hb k (by have := h.arg.lt; omega) (by omega)⟩⟩
/-- The program's answer bears marks. -/
theorem Ls.mark8 {s s6 g7 s7 s8 : Nat} {T : TypeId} {wd : Nat} {A R6 R7 R8 : Nat → Value} {n7 : Nat} {f7 : Nat → Int} {E6 E8 E8' : World → Prop} {w W W' : World} (h : Ls s s6 g7 s7 s8 T wd A R6 R7 R8 n7 f7 E6 E8 w W) (h6 : Stab (s + 1) s6 E6)
    (hk : E8' W') (hb : ∀ k, k < W.heap.size → ¬ (s7 + 1 ≤ k ∧ k < s8) → W'.heap[k]? = W.heap[k]?) (hm : W'.os = W.os ∧ W'.tape = W.tape ∧ W'.output = W.output ∧ W.heap.size ≤ W'.heap.size) : Ls s s6 g7 s7 s8 T wd A R6 R7 R8 n7 f7 E6 E8' w W' := by
  have o1 := h.o1; have o2 := h.o2; have o3 := h.o3; have o4 := h.o4
  exact ⟨h.arg.of_block (hb _ h.arg.lt (by omega)), h.r6.of_block (hb _ h.r6.lt (by omega)), h6 _ _ h.t6 (fun k _ h1 hk => hb k hk (by omega)), h.r7.of_block (hb _ h.r7.lt (by omega)), h.k7.block (hb _ h.k7.lt (by omega)), h.r8.of_block (hb _ h.r8.lt (by omega)), hk, o1, o2, o3, o4, h.bel.trans ⟨hm.1, hm.2.1, hm.2.2.1, hm.2.2.2, fun k hk => hb k (by have := h.arg.lt; omega) (by omega)⟩⟩
end Go.Proofs.YtjmnehlgefpheaaDoor
