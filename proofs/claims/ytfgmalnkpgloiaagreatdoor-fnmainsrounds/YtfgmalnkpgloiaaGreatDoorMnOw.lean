/-
  Lists that an answer is; copies of lists; the first truth that is false.
-/
import Derived.Test.YtfgmalnkpgloiaaGreatDoorMnTr
import Derived.Laws.AppendOwn
import Derived.Lib.Slices
namespace Go.Proofs.YtfgmalnkpgloiaaGreatDoor
open Go.RowKit Go.Deep

/-- A list that an answer is: its own memory, or none. -/
def OwL (T : TypeId) (B N : Nat) (a : Option Addr) (c : Nat) (f : Nat → Int) (W : World) : Prop := (a = none ∧ N = 0 ∧ c = 0) ∨ ∃ g, a = some ⟨g, 0, none⟩ ∧ B ≤ g ∧ IsBlk T g N f W
theorem OwL.same {T : TypeId} {B N c : Nat} {a : Option Addr} {f : Nat → Int} {W W' : World} (h : OwL T B N a c f W) (hb : ∀ k, B ≤ k → k < W.heap.size → W'.heap[k]? = W.heap[k]?) : OwL T B N a c f W' := by
  rcases h with h | ⟨g, e, h1, h2⟩
  · exact Or.inl h
  · exact Or.inr ⟨g, e, h1, h2.block (hb g h1 h2.lt)⟩
theorem OwL.below {T : TypeId} {B N c : Nat} {a : Option Addr} {f : Nat → Int} {W W' : World} (h : OwL T B N a c f W) (hb : Below W.heap.size W W') : OwL T B N a c f W' := h.same (fun k _ hk => hb.block k hk)
theorem OwL.at_ {T : TypeId} {B N c : Nat} {a : Option Addr} {f : Nat → Int} {W : World} (h : OwL T B N a c f W) : IsAt a N f W := by
  rcases h with h | ⟨g, e, h1, h2⟩
  · exact Or.inl h.2.1
  · rw [e]; exact h2.at_
theorem OwL.low {T : TypeId} {B B' N c : Nat} {a : Option Addr} {f : Nat → Int} {W : World} (h : OwL T B N a c f W) (hb : B' ≤ B) : OwL T B' N a c f W := by
  rcases h with h | ⟨g, e, h1, h2⟩
  · exact Or.inl h
  · exact Or.inr ⟨g, e, Nat.le_trans hb h1, h2⟩
theorem OwL.congr {T : TypeId} {B N c : Nat} {a : Option Addr} {f f' : Nat → Int} {W : World} (h : OwL T B N a c f W) (e : ∀ j, j < N → f j = f' j) : OwL T B N a c f' W := by
  rcases h with h | ⟨g, e1, h1, h2⟩
  · exact Or.inl h
  · exact Or.inr ⟨g, e1, h1, h2.congr e⟩
theorem OwL.pos {T : TypeId} {B N c : Nat} {a : Option Addr} {f : Nat → Int} {W : World} (h : OwL T B N a c f W) (hN : 0 < N) : ∃ g, a = some ⟨g, 0, none⟩ ∧ B ≤ g ∧ IsBlk T g N f W := by
  rcases h with h | h
  · omega
  · exact h
def isV (f : Nat → Int) (n : Nat) : List Value := (List.range n).map (fun j => .int .i64 (f j))
theorem isV_len (f : Nat → Int) (n : Nat) : (isV f n).length = n := by simp [isV]
theorem isV_get (f : Nat → Int) (n : Nat) {j : Nat} (hj : j < n) : (isV f n)[j]? = some (.int .i64 (f j)) := by simp [isV, hj]
theorem isV_succ (f : Nat → Int) (n : Nat) : isV f (n + 1) = isV f n ++ [.int .i64 (f n)] := by simp [isV, List.range_succ]
theorem owl_of {T : TypeId} {B n : Nat} {v : Value} {f : Nat → Int} {W : World} (h : W.ownsRow B T 1 v n (isV f n)) : ∃ a c, v = .slice a n c ∧ OwL T B n a c f W := by
  rcases h.2 with h2 | ⟨g, cap, cur, e1, e2, e3, e4, e5, e6, e7⟩
  · exact ⟨none, 0, by rw [h2.1, h2.2], Or.inl ⟨rfl, h2.2, rfl⟩⟩
  · refine ⟨_, _, e1, Or.inr ⟨g, rfl, e2, cap, fun i => cur[i]?.getD undef, by omega, ⟨cur, e3, by simpa using e6, fun i hi => ?_⟩, fun j hj => ?_⟩⟩
    · show cur[i]? = some (cur[i]?.getD undef)
      rw [Array.getElem?_eq_getElem (by omega)]
      rfl
    · have h1 : (cur.toList.take (n * 1))[j]? = (isV f n)[j]? := by rw [e7]
      rw [List.getElem?_take, if_pos (by omega), Array.getElem?_toList] at h1
      show cur[j]?.getD undef = _
      rw [h1, isV_get f n hj]
      rfl
theorem minfo_i64 : (Tryz.prog.info? 2).map (fun i => (i.zero, i.size, i.bytes)) = some (some (.int .i64 0), 1, 8) := by kernel_rfl
theorem mmk_i64 (n : Nat) (hn : n ≤ 1048576) (w : World) : (Instr.makeSlice 25 (.int .i64 (n : Int)) (.int .i64 (n : Int))).run Tryz.prog w = .ok (.slice (some ⟨w.heap.size, 0, none⟩) n n) (w.alloc (.cells (madeCells #[.int .i64 0] n) 2)) :=
  run_make_row' (P := Tryz.prog) 25 2 (.int .i64 0) 8 Tryz.underlying25 minfo_i64 rfl .i64 .i64 n (by omega) (by omega) w
theorem mis_new (w : World) (n : Nat) : IsBlk 2 w.heap.size n (fun _ => 0) (w.alloc (.cells (madeCells #[.int .i64 0] n) 2)) := ⟨n, _, Nat.le_refl _, World.rowIs_made w (.int .i64 0) n 2, fun _ _ => rfl⟩
/-- The cells of a list, wherever it lies. -/
theorem isAt_cells {a : Option Addr} {n : Nat} {f : Nat → Int} {w : World} (h : IsAt a n f w) {b : Nat} (e : a = some ⟨b, 0, none⟩) : ∀ j, j < n → w.cell? ⟨b, j, none⟩ = some (.int .i64 (f j)) := by
  intro j hj
  obtain ⟨b', e', c⟩ := h.at1 hj
  rw [e] at e'
  cases e'
  exact c
set_option maxRecDepth 100000 in
set_option maxHeartbeats 2000000 in
theorem mclone_any (b n cap : Nat) (f : Nat → Int) (w : World) (h : ∀ i, i < n → w.cell? ⟨b, i, none⟩ = some (.int .i64 (f i))) (hn2 : n ≤ 1048576) :
    Calls Tryz.prog 76 #[.slice (some ⟨b, 0, none⟩) n cap] w fun e w' => (∃ a c, e = .returned (.slice a n c) ∧ OwL 2 w.heap.size n a c f w') ∧ Below w.heap.size w w' := by
  obtain ⟨i0, hi, hz0, hz1, hz2⟩ := info_parts minfo_i64
  have q22 : ∀ (w : World) (a : Option Addr) (n c n' c' : Nat), (binOp .eql 25 (.slice a n c) (.slice none n' c')).run Tryz.prog w = .ok (.bool a.isNone) w := fun w a n c n' c' => Lib.run_eql_slice_nil w _ _ a n c n' c' Tryz.underlying25
  have H := Lib.hid h
  clear h
  go_enter Tryz.func76, Tryz.ntmps76
  go_wp2_with (at_builtin; refine wpList_append_own _ rfl _ _ 25 rfl w.heap.size 2 i0 (.int .i64 0) 1 8 Tryz.underlying25 hi hz0 hz1 hz2 rfl (by decide) _ _ _ rfl (World.ownsRow_made w #[] 0 (Nat.le_refl _) (Nat.zero_le _) rfl) ⟨b, 0, none⟩ n cap (isV f n) rfl ?qc1 ?qc2 ?qc3 ?qc4 ?qc5 ?qc6 ?_)
  case qc1 => simp [isV_len]
  case qc2 =>
    intro j u hj
    have hjn : j < n := by
      have := (List.getElem?_eq_some_iff.1 hj).1
      simpa [isV_len] using this
    rw [Addr.add_lit]
    refine Lib.cell?_alloc_some _ ?_
    rw [Nat.zero_add, H.out j hjn, ← hj, isV_get f n hjn]
  case qc3 =>
    intro u hu
    unfold isV at hu
    obtain ⟨x, _, rfl⟩ := List.mem_map.1 hu
    rfl
  case qc4 => unfold maxLen; omega
  case qc5 => omega
  case qc6 => simp
  intro v' w1 hown hgrow hnil
  have HB : Hid (Below w.heap.size w w1) := ((Below.refl _ w).alloc (Nat.le_refl _) _).grown hgrow (by simp) (by intro k hk; simp [Value.ownBlock] at hk; omega)
  have hown' : w1.ownsRow w.heap.size 2 1 v' n (isV f n) := by simpa using hown
  obtain ⟨a, c, rfl, ho⟩ := owl_of hown'
  have HO := Lib.hid ho
  clear hown hown' hgrow hnil ho
  go_wp2
  go_ret
  exact ⟨⟨a, c, rfl, HO.out⟩, HB.out⟩
set_option maxRecDepth 100000 in
set_option maxHeartbeats 2000000 in
theorem index_any (g n c : Nat) (s : Nat → Bool) (w : World) (h : MBl g n s w) (hn : n ≤ 1048576) :
    Calls Tryz.prog 73 #[.slice (some ⟨g, 0, none⟩) n c, .bool false] w fun e w' => (∃ r : Int, e = .returned (.int .i64 r) ∧ Mn.OutAt s n r) ∧ w' = w := by
  have H := Lib.hid h
  clear h
  go_enter Tryz.func73, Tryz.ntmps73
  go_wp2_with fail
  go_loopw [8] (fun iv wr => ∃ (i : Nat), i ≤ n ∧ iv = .int .i64 i ∧ Hid (wr = w) ∧ Hid (∀ j, j < i → s j = true)) (fun iv _ => n - (intOf iv).toNat)
  case atStart => exact ⟨0, Nat.zero_le _, rfl, rfl, fun j hj => absurd hj (Nat.not_lt_zero _)⟩
  case round =>
    obtain ⟨i, hi, rfl, hW, hP⟩ := hrel
    obtain rfl := hW.out
    clear hW
    by_cases hlt : i < n
    · have hltz : (i : Int) < (n : Int) := by omega
      have c0 := H.out.cell hlt
      cases hs : s i with
      | true =>
        rw [hs] at c0
        have HS := Lib.hid hs
        clear hs
        go_wp2_with fail
        go_roundw
        case rel =>
          refine ⟨i + 1, by omega, by go_num, by first | exact rfl | exact (trivial : True), fun j hj => ?_⟩
          by_cases ej : j = i
          · subst ej; exact HS.out
          · exact hP.out j (by omega)
        case measure => simp [intOf]; omega
      | false =>
        rw [hs] at c0
        have HS := Lib.hid hs
        clear hs
        go_wp2_with fail
        go_ret
        exact ⟨⟨_, rfl, Or.inl ⟨i, hlt, rfl, HS.out, hP.out⟩⟩, rfl⟩
    · obtain rfl : i = n := by omega
      go_wp2_with fail
      go_ret
      exact ⟨⟨_, rfl, Or.inr ⟨rfl, hP.out⟩⟩, rfl⟩
end Go.Proofs.YtfgmalnkpgloiaaGreatDoor
