/-
  A list of numbers of the call's own, copied.
-/
import Derived.Test.YtmfokilpfbcicaaDoorDyMem
import Derived.Laws.AppendOwn
import Derived.Lib.Slices
namespace Go.Proofs.YtmfokilpfbcicaaDoor
open Go.RowKit Go.Deep

def isV (f : Nat → Int) (n : Nat) : List Value := (List.range n).map (fun j => .int .i64 (f j))
theorem isV_len (f : Nat → Int) (n : Nat) : (isV f n).length = n := by simp [isV]
theorem isV_get (f : Nat → Int) (n : Nat) {j : Nat} (hj : j < n) : (isV f n)[j]? = some (.int .i64 (f j)) := by simp [isV, hj]
theorem isV_succ (f : Nat → Int) (n : Nat) : isV f (n + 1) = isV f n ++ [.int .i64 (f n)] := by simp [isV, List.range_succ]
theorem dyowl {T : TypeId} {B n : Nat} {v : Value} {f : Nat → Int} {W : World} (h : W.ownsRow B T 1 v n (isV f n)) (hn : 1 ≤ n) : ∃ g c, v = .slice (some ⟨g, 0, none⟩) n c ∧ B ≤ g ∧ IsBlk T g n f W := by
  rcases h.2 with h2 | ⟨g, cap, cur, e1, e2, e3, e4, e5, e6, e7⟩
  · omega
  · refine ⟨g, _, e1, e2, cap, fun i => cur[i]?.getD undef, by omega, ⟨cur, e3, by simpa using e6, fun i hi => ?_⟩, fun j hj => ?_⟩
    · show cur[i]? = some (cur[i]?.getD undef)
      rw [Array.getElem?_eq_getElem (by omega)]
      rfl
    · have h1 : (cur.toList.take (n * 1))[j]? = (isV f n)[j]? := by rw [e7]
      rw [List.getElem?_take, if_pos (by omega), Array.getElem?_toList] at h1
      show cur[j]?.getD undef = _
      rw [h1, isV_get f n hj]
      rfl
theorem minfo_i64 : (Tryd.prog.info? 2).map (fun i => (i.zero, i.size, i.bytes)) = some (some (.int .i64 0), 1, 8) := by kernel_rfl
theorem mmk_i64 (n : Nat) (hn : n ≤ 1048576) (w : World) : (Instr.makeSlice 23 (.int .i64 (n : Int)) (.int .i64 (n : Int))).run Tryd.prog w = .ok (.slice (some ⟨w.heap.size, 0, none⟩) n n) (w.alloc (.cells (madeCells #[.int .i64 0] n) 2)) :=
  run_make_row' (P := Tryd.prog) 23 2 (.int .i64 0) 8 Tryd.underlying23 minfo_i64 rfl .i64 .i64 n (by omega) (by omega) w
theorem mis_new (w : World) (n : Nat) : IsBlk 2 w.heap.size n (fun _ => 0) (w.alloc (.cells (madeCells #[.int .i64 0] n) 2)) := ⟨n, _, Nat.le_refl _, World.rowIs_made w (.int .i64 0) n 2, fun _ _ => rfl⟩
set_option maxRecDepth 100000 in
set_option maxHeartbeats 2000000 in
theorem dyclone_any (b n cap : Nat) (f : Nat → Int) (w : World) (h : ∀ i, i < n → w.cell? ⟨b, i, none⟩ = some (.int .i64 (f i))) (hn2 : n ≤ 1048576) (hn1 : 1 ≤ n) :
    Calls Tryd.prog 30 #[.slice (some ⟨b, 0, none⟩) n cap] w fun e w' => (∃ g c, e = .returned (.slice (some ⟨g, 0, none⟩) n c) ∧ w.heap.size ≤ g ∧ IsBlk 2 g n f w') ∧ Below w.heap.size w w' := by
  obtain ⟨i0, hi, hz0, hz1, hz2⟩ := info_parts minfo_i64
  have q22 : ∀ (w : World) (a : Option Addr) (n c n' c' : Nat), (binOp .eql 23 (.slice a n c) (.slice none n' c')).run Tryd.prog w = .ok (.bool a.isNone) w := fun w a n c n' c' => Lib.run_eql_slice_nil w _ _ a n c n' c' Tryd.underlying23
  have H := Lib.hid h
  clear h
  go_enter Tryd.func30, Tryd.ntmps30
  go_wp2_with (at_builtin; refine wpList_append_own _ rfl _ _ 23 rfl w.heap.size 2 i0 (.int .i64 0) 1 8 Tryd.underlying23 hi hz0 hz1 hz2 rfl (by decide) _ _ _ rfl (World.ownsRow_made w #[] 0 (Nat.le_refl _) (Nat.zero_le _) rfl) ⟨b, 0, none⟩ n cap (isV f n) rfl ?qc1 ?qc2 ?qc3 ?qc4 ?qc5 ?qc6 ?_)
  case qc1 => simp [isV_len]
  case qc2 =>
    intro j u hj
    have hjn : j < n := by
      have := (List.getElem?_eq_some_iff.1 hj).1
      simpa [isV_len] using this
    rw [Addr.add_lit]
    refine Lib.cell?_alloc_some _ ?_
    rw [Nat.zero_add, H.out j hjn, ← hj, isV_get f n hjn]
  case qc3 =>
    intro u hu
    unfold isV at hu
    obtain ⟨x, _, rfl⟩ := List.mem_map.1 hu
    rfl
  case qc4 => unfold maxLen; omega
  case qc5 => omega
  case qc6 => simp
  intro v' w1 hown hgrow hnil
  have HB : Hid (Below w.heap.size w w1) := ((Below.refl _ w).alloc (Nat.le_refl _) _).grown hgrow (by simp) (by intro k hk; simp [Value.ownBlock] at hk; omega)
  have hown' : w1.ownsRow w.heap.size 2 1 v' n (isV f n) := by simpa using hown
  obtain ⟨g, c, rfl, hg, ho⟩ := dyowl hown' hn1
  have HO := Lib.hid ho
  clear hown hown' hgrow hnil ho
  go_wp2
  go_ret
  exact ⟨⟨g, c, rfl, hg, HO.out⟩, HB.out⟩
theorem dyown_below {B n s : Nat} {t : TypeId} {v : Value} {xs : List Value} {W W' : World} (h : W.ownsRow B t s v n xs) (hb : Below W.heap.size W W') : W'.ownsRow B t s v n xs := by
  refine ⟨h.1, ?_⟩
  rcases h.2 with h2 | ⟨g, cap, cur, e1, e2, e3, e4, e5, e6, e7⟩
  · exact Or.inl h2
  · exact Or.inr ⟨g, cap, cur, e1, e2, (hb.block g (Array.getElem?_eq_some_iff.1 e3).1).trans e3, e4, e5, e6, e7⟩
theorem dyblk_ne {T T' : TypeId} {g N o m : Nat} {f : Nat → Int} {F : Nat → Value} {W : World} (h : IsBlk T g N f W) (hr : W.rowIs o T' m F) (hT : T ≠ T') : g ≠ o := by
  intro e
  subst e
  obtain ⟨cap, F', _, ⟨c1, h1, _⟩, _⟩ := h
  obtain ⟨c2, h2, _⟩ := hr
  rw [h1] at h2
  injection h2 with h2
  injection h2 with _ h3
  exact hT h3
end Go.Proofs.YtmfokilpfbcicaaDoor
