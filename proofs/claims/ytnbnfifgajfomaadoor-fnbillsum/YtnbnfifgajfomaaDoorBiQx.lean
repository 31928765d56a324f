/-
  Lists of numbers that an answer is, wherever in their block they begin: compared, marked, found again.
-/
import Derived.Test.YtnbnfifgajfomaaDoorBiQ
import Derived.Test.YtnbnfifgajfomaaDoorReg
namespace Go.Proofs.YtnbnfifgajfomaaDoor
open Go.RowKit Go.Deep

def IsBlkO (g o N : Nat) (f : Nat → Int) (w : World) : Prop := ∃ m F, o + N ≤ m ∧ w.rowIs g 2 m F ∧ ∀ j, j < N → F (o + j) = .int .i64 (f j)
theorem IsBlkO.lt {g o N : Nat} {f : Nat → Int} {w : World} (h : IsBlkO g o N f w) : g < w.heap.size := by obtain ⟨m, F, _, h, _⟩ := h; exact h.lt
theorem IsBlkO.block {g o N : Nat} {f : Nat → Int} {w w' : World} (h : IsBlkO g o N f w) (e : w'.heap[g]? = w.heap[g]?) : IsBlkO g o N f w' := by obtain ⟨m, F, h1, h2, h3⟩ := h; exact ⟨m, F, h1, h2.of_block e, h3⟩
theorem IsBlkO.cell {g o N i : Nat} {f : Nat → Int} {w : World} (h : IsBlkO g o N f w) (hi : i < N) : w.cell? ⟨g, o + i, none⟩ = some (.int .i64 (f i)) := by
  obtain ⟨m, F, h1, h2, h3⟩ := h
  rw [h2.cell (i := o + i) (by omega), h3 _ hi]
/-- A list that an answer is: its own memory, or none. -/
def QsOwn (B N : Nat) (a : Option Addr) (c : Nat) (f : Nat → Int) (W : World) : Prop := (a = none ∧ N = 0 ∧ c = 0) ∨ ∃ g o, a = some ⟨g, o, none⟩ ∧ B ≤ g ∧ IsBlkO g o N f W
theorem QsOwn.same {B N c : Nat} {a : Option Addr} {f : Nat → Int} {W W' : World} (h : QsOwn B N a c f W) (hb : ∀ k, (Value.slice a N c).ownBlock = some k → k < W.heap.size → W'.heap[k]? = W.heap[k]?) : QsOwn B N a c f W' := by
  rcases h with h | ⟨g, o, rfl, h1, h2⟩
  · exact Or.inl h
  · exact Or.inr ⟨g, o, rfl, h1, h2.block (hb g rfl h2.lt)⟩
theorem QsOwn.below {B N c : Nat} {a : Option Addr} {f : Nat → Int} {W W' : World} (h : QsOwn B N a c f W) (hb : Below W.heap.size W W') : QsOwn B N a c f W' := h.same (fun k _ hk => hb.block k hk)
theorem QsOwn.in_ {B N c : Nat} {a : Option Addr} {f : Nat → Int} {W : World} (h : QsOwn B N a c f W) : IsIn a N f W := by
  rcases h with h | ⟨g, o, rfl, h1, h2⟩
  · exact Or.inl h.2.1
  · exact Or.inr ⟨g, o, rfl, fun j hj => h2.cell hj⟩
theorem QsOwn.low {B B' N c : Nat} {a : Option Addr} {f : Nat → Int} {W : World} (h : QsOwn B N a c f W) (hb : B' ≤ B) : QsOwn B' N a c f W := by
  rcases h with h | ⟨g, o, e, h1, h2⟩
  · exact Or.inl h
  · exact Or.inr ⟨g, o, e, Nat.le_trans hb h1, h2⟩
theorem QsOwn.lt {B N c : Nat} {a : Option Addr} {f : Nat → Int} {W : World} (h : QsOwn B N a c f W) {k : Nat} (e : (Value.slice a N c).ownBlock = some k) : B ≤ k ∧ k < W.heap.size := by
  rcases h with ⟨rfl, _⟩ | ⟨g, o, rfl, h1, h2⟩
  · cases e
  · cases e; exact ⟨h1, h2.lt⟩
theorem QsOwn.congr {B N c : Nat} {a : Option Addr} {f f' : Nat → Int} {W : World} (h : QsOwn B N a c f W) (e : ∀ j, j < N → f j = f' j) : QsOwn B N a c f' W := by
  rcases h with h | ⟨g, o, rfl, h1, m, F, h2, h3, h4⟩
  · exact Or.inl h
  · exact Or.inr ⟨g, o, rfl, h1, m, F, h2, h3, fun j hj => by rw [h4 j hj, e j hj]⟩
theorem QsOwn.ne {B N c : Nat} {a : Option Addr} {f : Nat → Int} {W : World} {x n : Nat} {T : TypeId} {F : Nat → Value} (h : QsOwn B N a c f W) (hr : W.rowIs x T n F) (hT : 2 ≠ T) : (Value.slice a N c).ownBlock ≠ some x := by
  intro hk
  rcases h with ⟨rfl, _⟩ | ⟨g, o, rfl, h1, m, G, h2, h4, h5⟩
  · cases hk
  · cases hk
    obtain ⟨c1, q1, _⟩ := h4
    obtain ⟨c2, q2, _⟩ := hr
    rw [q1] at q2
    simp at q2
    exact hT q2.2
/-- The numbers of a list. -/
def qf (l : List Int) (j : Nat) : Int := l.getD j 0
theorem OwnQ.qs {B : Nat} {v : Value} {xs : List Int} {W : World} (h : OwnQ B v xs W) : ∃ a c, v = .slice a xs.length c ∧ QsOwn B xs.length a c (qf xs) W := by
  rcases h with ⟨rfl, rfl⟩ | ⟨g, o, c, m, F, rfl, h1, h2, h3, h4, h5⟩
  · exact ⟨none, 0, rfl, Or.inl ⟨rfl, rfl, rfl⟩⟩
  · exact ⟨_, _, rfl, Or.inr ⟨g, o, rfl, h1, m, F, by omega, h4, fun j hj => h5 j hj⟩⟩
/-- The first numbers of a block from a place on are there. -/
def IsPartO (g o M N : Nat) (f : Nat → Int) (w : World) : Prop := ∃ F, w.rowIs g 2 M F ∧ ∀ j, j < N → F (o + j) = .int .i64 (f j)
theorem IsPartO.lt {g o M N : Nat} {f : Nat → Int} {w : World} (h : IsPartO g o M N f w) : g < w.heap.size := by obtain ⟨F, h1, _⟩ := h; exact h1.lt
theorem IsPartO.cell {g o M N j : Nat} {f : Nat → Int} {w : World} (h : IsPartO g o M N f w) (hj : o + j < M) : ∃ v, w.cell? ⟨g, o + j, none⟩ = some v := by obtain ⟨F, h1, _⟩ := h; exact ⟨_, h1.cell hj⟩
theorem IsPartO.frozen {g o M N : Nat} {f : Nat → Int} {w : World} (h : IsPartO g o M N f w) (j : Nat) : w.frozen? ⟨g, j, none⟩ = false := by obtain ⟨F, h1, _⟩ := h; exact h1.frozen j
theorem IsPartO.put {g o M N : Nat} {f : Nat → Int} {w : World} (h : IsPartO g o M N f w) (z : Int) (hz : z = f N) : IsPartO g o M (N + 1) f (w.setCell ⟨g, o + N, none⟩ (.int .i64 z)) := by
  obtain ⟨F, h1, h2⟩ := h
  subst hz
  refine ⟨_, h1.set (o + N) _, fun j hj => ?_⟩
  by_cases e : j = N
  · subst e; simp
  · simp only [show ¬ o + j = o + N by omega, if_false]; exact h2 j (by omega)
set_option maxRecDepth 100000 in
set_option maxHeartbeats 2000000 in
theorem qeqInt64S_same (a b : Option Addr) (n ca cb : Nat) (f : Nat → Int) (w : World) (h1 : IsIn a n f w) (h2 : IsIn b n f w) (hn : n ≤ 1048576) :
    Calls Tryd.prog 51 #[.slice a n ca, .slice b n cb] w fun e w' => e = .returned (.bool true) ∧ Below w.heap.size w w' := by
  have H1 := Lib.hid h1
  have H2 := Lib.hid h2
  clear h1 h2
  go_enter Tryd.func51, Tryd.ntmps51
  go_wp2_with fail
  go_loopw [5] (fun iv wr => ∃ (i : Nat), i ≤ n ∧ iv = .int .i64 i ∧ Hid (Below w.heap.size w wr)) (fun iv _ => n - (intOf iv).toNat)
  case atStart => exact ⟨0, Nat.zero_le _, rfl, Below.refl _ _⟩
  case round =>
    obtain ⟨i, hi, rfl, hB⟩ := hrel
    by_cases hlt : i < n
    · have hltz : (i : Int) < (n : Int) := by omega
      obtain ⟨b1, o1, rfl, k1⟩ := (H1.out.below hB.out).at1 hlt
      obtain ⟨b2, o2, rfl, k2⟩ := (H2.out.below hB.out).at1 hlt
      go_wp2_with fail
      go_region
      go_wp2_with fail
      go_roundw
      case rel => exact ⟨i + 1, by omega, by go_num, hB.out.drew⟩
      case measure => simp [intOf]; omega
    · obtain rfl : i = n := by omega
      go_wp2_with fail
      go_ret
      exact ⟨rfl, hB.out⟩
set_option maxRecDepth 100000 in
set_option maxHeartbeats 2000000 in
theorem qmarkInt64S_any (g o n c k : Nat) (f : Nat → Int) (w : World) (h : IsBlkO g o n f w) (hn : n ≤ 1048576) (hk : k ≤ 16777216) :
    Calls Tryd.prog 54 #[.slice (some ⟨g, o, none⟩) n c, .int .i64 k] w fun e w' => e = .returned (.int .i64 ((k + n : Nat) : Int)) ∧ IsBlkO g o n (mk1 k) w' ∧ Only g w w' := by
  obtain ⟨M, F0, hM, hR, _⟩ := h
  have H : Hid (IsPartO g o M 0 (mk1 k) w) := ⟨F0, hR, fun j hj => absurd hj (Nat.not_lt_zero _)⟩
  clear hR
  go_enter Tryd.func54, Tryd.ntmps54
  go_wp2_with fail
  go_loopw [1, 5] (fun kv iv wr => ∃ (i : Nat), i ≤ n ∧ kv = .int .i64 ((k + i : Nat) : Int) ∧ iv = .int .i64 i ∧ Hid (IsPartO g o M i (mk1 k) wr) ∧ Hid (Only g w wr)) (fun _ iv _ => n - (intOf iv).toNat)
  case atStart => exact ⟨0, Nat.zero_le _, by simp, rfl, H, Only.refl _ _⟩
  case round =>
    obtain ⟨i, hi, rfl, rfl, hP, hO⟩ := hrel
    clear H
    by_cases hlt : i < n
    · have hltz : (i : Int) < (n : Int) := by omega
      obtain ⟨v0, c0⟩ := hP.out.cell (j := i) (by omega)
      have f0 := hP.out.frozen (o + i)
      have zg : g < wr.heap.size := hP.out.lt
      obtain ⟨K, hK⟩ : ∃ K : Nat, K = k + i := ⟨_, rfl⟩
      rw [← hK]
      have hK2 : K ≤ 25165824 := by omega
      have HP5 := Lib.hid (hP.out.put (K : Int) (by unfold mk1; omega))
      have HO5 := Lib.hid (hO.out.set (o + i) (.int .i64 (K : Int)))
      have HKE : Hid (K = k + i) := hK
      clear hP hO hK
      go_wp2_with fail
      go_roundw
      case rel =>
        refine ⟨i + 1, by omega, ?_, by go_num, HP5, HO5⟩
        have := HKE.out
        congr 1; omega
      case measure => simp [intOf]; omega
    · obtain rfl : i = n := by omega
      have HX : Hid (IsBlkO g o i (mk1 k) wr) := by obtain ⟨F, h1, h2⟩ := hP.out; exact ⟨M, F, hM, h1, h2⟩
      go_wp2_with fail
      go_ret
      exact ⟨rfl, HX.out, hO.out⟩
set_option maxRecDepth 100000 in
set_option maxHeartbeats 2000000 in
theorem qmarkInt64S_nil (k : Nat) (w : World) :
    Calls Tryd.prog 54 #[.slice none 0 0, .int .i64 k] w fun e w' => e = .returned (.int .i64 k) ∧ w' = w := by
  go_enter Tryd.func54, Tryd.ntmps54
  go_wp2_with fail
  go_loopw [1, 5] (fun kv iv wr => kv = .int .i64 k ∧ iv = .int .i64 0 ∧ wr = w) (fun _ _ _ => 0)
  case atStart => exact ⟨rfl, rfl, rfl⟩
  case round =>
    obtain ⟨rfl, rfl, rfl⟩ := hrel
    go_wp2_with fail
    go_ret
    exact ⟨rfl, rfl⟩
theorem qmark {B N c : Nat} {a : Option Addr} {f : Nat → Int} (w : World) (h : QsOwn B N a c f w) (hn : N ≤ 1048576) :
    Calls Tryd.prog 54 #[.slice a N c, .int .i64 1] w fun e w' => e = .returned (.int .i64 ((1 + N : Nat) : Int)) ∧ QsOwn B N a c (mk1 1) w' ∧ (∀ k, k < w.heap.size → (Value.slice a N c).ownBlock ≠ some k → w'.heap[k]? = w.heap[k]?) ∧ w'.os = w.os ∧ w'.tape = w.tape ∧ w'.output = w.output ∧ w.heap.size ≤ w'.heap.size := by
  rcases h with ⟨rfl, rfl, rfl⟩ | ⟨g, o, rfl, h1, h2⟩
  · refine (qmarkInt64S_nil 1 w).mono ?_
    rintro e w' ⟨rfl, rfl⟩
    exact ⟨rfl, Or.inl ⟨rfl, rfl, rfl⟩, fun _ _ _ => rfl, rfl, rfl, rfl, Nat.le_refl _⟩
  · refine (qmarkInt64S_any g o N c 1 f w h2 hn (by omega)).mono ?_
    rintro e w' ⟨rfl, hm, ho⟩
    exact ⟨rfl, Or.inr ⟨g, o, rfl, h1, hm⟩, fun k hk hne => ho.block k hk (fun e => hne (by rw [e]; rfl)), ho.os, ho.tape, ho.output, ho.size⟩
set_option maxRecDepth 100000 in
set_option maxHeartbeats 2000000 in
theorem qheldInt64S_any (g o n c k : Nat) (w : World) (h : IsBlkO g o n (mk1 k) w) (hn : n ≤ 1048576) (hk : k ≤ 16777216) :
    Calls Tryd.prog 55 #[.slice (some ⟨g, o, none⟩) n c, .int .i64 k] w fun e w' => e = .returned (.int .i64 ((k + n : Nat) : Int)) ∧ w' = w := by
  have H := Lib.hid h
  clear h
  go_enter Tryd.func55, Tryd.ntmps55
  go_wp2_with fail
  go_loopw [1, 5] (fun kv iv wr => ∃ (i : Nat), i ≤ n ∧ kv = .int .i64 ((k + i : Nat) : Int) ∧ iv = .int .i64 i ∧ Hid (wr = w)) (fun _ iv _ => n - (intOf iv).toNat)
  case atStart => exact ⟨0, Nat.zero_le _, by simp, rfl, rfl⟩
  case round =>
    obtain ⟨i, hi, rfl, rfl, hW⟩ := hrel
    obtain rfl := hW.out
    clear hW
    by_cases hlt : i < n
    · have hltz : (i : Int) < (n : Int) := by omega
      obtain ⟨K, hK⟩ : ∃ K : Nat, K = k + i := ⟨_, rfl⟩
      have c0 : wr.cell? ⟨g, o + i, none⟩ = some (.int .i64 (K : Int)) := (H.out.cell (i := i) (by omega)).trans (by unfold mk1; rw [hK])
      rw [← hK]
      have hK2 : K ≤ 25165824 := by omega
      have HKE : Hid (K = k + i) := hK
      clear hK
      go_wp2_with fail
      go_roundw
      case rel =>
        refine ⟨i + 1, by omega, ?_, by go_num, by first | exact rfl | exact (trivial : True)⟩
        have := HKE.out
        congr 1; omega
      case measure => simp [intOf]; omega
    · obtain rfl : i = n := by omega
      go_wp2_with fail
      go_ret
      exact ⟨rfl, rfl⟩
set_option maxRecDepth 100000 in
set_option maxHeartbeats 2000000 in
theorem qheldInt64S_nil (k : Nat) (w : World) :
    Calls Tryd.prog 55 #[.slice none 0 0, .int .i64 k] w fun e w' => e = .returned (.int .i64 k) ∧ w' = w := by
  go_enter Tryd.func55, Tryd.ntmps55
  go_wp2_with fail
  go_loopw [1, 5] (fun kv iv wr => kv = .int .i64 k ∧ iv = .int .i64 0 ∧ wr = w) (fun _ _ _ => 0)
  case atStart => exact ⟨rfl, rfl, rfl⟩
  case round =>
    obtain ⟨rfl, rfl, rfl⟩ := hrel
    go_wp2_with fail
    go_ret
    exact ⟨rfl, rfl⟩
theorem qheld {B N c : Nat} {a : Option Addr} (w : World) (h : QsOwn B N a c (mk1 1) w) (hn : N ≤ 1048576) :
    Calls Tryd.prog 55 #[.slice a N c, .int .i64 1] w fun e w' => e = .returned (.int .i64 ((1 + N : Nat) : Int)) ∧ w' = w := by
  rcases h with ⟨rfl, rfl, rfl⟩ | ⟨g, o, rfl, h1, h2⟩
  · exact qheldInt64S_nil 1 w
  · exact qheldInt64S_any g o N c 1 w h2 hn (by omega)
end Go.Proofs.YtnbnfifgajfomaaDoor
