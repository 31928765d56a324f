/-
  The keys of a map of pairs, in some order.
-/
import Derived.Test.YtipmjobhegpdgaaGreatDoorPlM1
import Derived.OwnWalk
namespace Go.Proofs.YtipmjobhegpdgaaGreatDoor
open Go Go.RowKit Go.Deep
open Go.ChangeMaps (setBlock)

theorem pinfo_pair : (Tryz.prog.info? 112).map (fun i => (i.zero, i.size, i.bytes)) = some (some (kV (0, 0)), 2, 16) := by kernel_rfl
theorem pairAgg (w : World) : (isAgg 112).run Tryz.prog w = .ok true w := by kernel_rfl
theorem pairSize (w : World) : (Go.sizeOf 112).run Tryz.prog w = .ok 2 w := by kernel_rfl
def lenV : Value → Nat
  | .slice _ n _ => n
  | _ => 0
/-- The cells of the keys of these places. -/
def keyCells (kf : Nat → Int × Int) (l : List Nat) : List Value := l.flatMap fun j => encP (kf j)
theorem keyCells_len (kf : Nat → Int × Int) (l : List Nat) : (keyCells kf l).length = l.length * 2 := by
  induction l with
  | nil => rfl
  | cons a l ih =>
    show (encP (kf a) ++ keyCells kf l).length = _
    rw [List.length_append, ih, List.length_cons]
    show 2 + l.length * 2 = _
    omega
theorem keyCells_snoc (kf : Nat → Int × Int) (l : List Nat) (j : Nat) : keyCells kf l ++ encP (kf j) = keyCells kf (l ++ [j]) := by simp [keyCells]
theorem keyCells_get (kf : Nat → Int × Int) (l : List Nat) (i : Nat) (hi : i < l.length * 2) : (keyCells kf l)[i]? = some ((encP (kf l[i / 2]!))[i % 2]!) := by
  induction l generalizing i with
  | nil => simp at hi
  | cons a l ih =>
    match i with
    | 0 => simp [keyCells, encP]
    | 1 => simp [keyCells, encP]
    | i + 2 =>
      have h := ih i (by simp at hi; omega)
      have e1 : (i + 2) / 2 = i / 2 + 1 := by omega
      have e2 : (i + 2) % 2 = i % 2 := by omega
      rw [e1, e2]
      simpa [keyCells, encP] using h
/-- What stands while the keys are collected. -/
structure KyS (b cnt : Nat) (kf : Nat → Int × Int) (vf : Nat → Value) (r : Nat) (l : List Nat) (v : Value) (w W : World) : Prop where
  map : LMap b cnt kf vf W
  it : ∃ seen : Array Nat, W.heap[r]? = some (.mapIter (some b) cnt seen cnt) ∧ seen.toList = l
  nd : l.Nodup
  lt : ∀ j, j ∈ l → j < cnt
  own : W.ownsRow w.heap.size 112 2 v l.length (keyCells kf l)
  sl : ∃ g c, v = .slice (some ⟨g, 0, none⟩) l.length c
  gne : ∀ g, v.ownBlock = some g → g ≠ r
  lo : w.heap.size ≤ r
  old : Below w.heap.size w W
theorem left_iff {cnt : Nat} {kf : Nat → Int × Int} {vf : Nat → Value} {seen : Array Nat} {e : MapEntry} : e ∈ (leftOf (LEs cnt kf vf) seen).toList ↔ ∃ j, j < cnt ∧ e = ent kf vf j ∧ j ∉ seen.toList := by
  unfold leftOf
  simp only [Array.toList_filter, List.mem_filter, LEs.mem]
  constructor
  · rintro ⟨⟨j, hj, rfl⟩, h⟩
    refine ⟨j, hj, rfl, fun hm => ?_⟩
    simp [ent] at h
    exact h (by simpa using hm)
  · rintro ⟨j, hj, rfl, h⟩
    refine ⟨⟨j, hj, rfl⟩, ?_⟩
    simp [ent]
    intro hm
    exact h (by simpa using hm)
theorem born_nodup (cnt : Nat) (kf : Nat → Int × Int) (vf : Nat → Value) : ((LEs cnt kf vf).toList.map (·.born)).Nodup := by
  have : (LEs cnt kf vf).toList.map (·.born) = List.range cnt := by
    simp [LEs, ent, Function.comp_def]
  rw [this]
  exact List.nodup_range
theorem nodup_len {l : List Nat} {n : Nat} (h : l.Nodup) (hl : ∀ j, j ∈ l → j < n) : l.length ≤ n := by
  induction n generalizing l with
  | zero =>
    cases l with
    | nil => simp
    | cons a l => exact absurd (hl a (by simp)) (by omega)
  | succ n ih =>
    by_cases hm : n ∈ l
    · have h1 := ih (h.erase n) (fun j hj => by
        have h2 := (List.Nodup.mem_erase_iff h).1 hj
        have h3 := hl j h2.2
        have h4 := h2.1
        omega)
      rw [List.length_erase_of_mem hm] at h1
      omega
    · have h1 := ih h (fun j hj => by
        have h3 := hl j hj
        have h4 : j ≠ n := fun e => hm (e ▸ hj)
        omega)
      omega
theorem sort_only {α : Type} [Inhabited α] (enc : α → List Value) (k : Nat) (w : World) (blk off m : Nat) (d : Array α) (os : Array Obj) : Only blk w (sortWorldK enc k w blk off m d os) := by
  refine ⟨rfl, rfl, rfl, ?_, fun q hq hne => ?_⟩
  · simp [sortWorldK, Sort.grow, Sort.putRowK, Sort.putRow, Sort.mapBlock, Sort.ahead]
  · show ((w.heap.modify blk _) ++ os)[q]? = _
    rw [Array.getElem?_append_left (by simpa using hq), Array.getElem?_modify]
    simp [Ne.symm hne]
set_option maxRecDepth 100000 in
set_option maxHeartbeats 1000000 in
theorem sorted_any (b cnt : Nat) (kf : Nat → Int × Int) (vf : Nat → Value) (w : World) (h : LMap b cnt kf vf w) (hc : cnt ≤ 1000) :
    Calls Tryz.prog 79 #[.map (some b)] w fun e w' => (∃ g c f, e = .returned (.slice (some ⟨g, 0, none⟩) cnt c) ∧ w.heap.size ≤ g ∧ IsAt (some ⟨g, 0, none⟩) (cnt * 2) f w' ∧ (∀ i, i < cnt → ∃ j, j < cnt ∧ kf j = (f (i * 2), f (i * 2 + 1))) ∧ ∀ j, j < cnt → ∃ i, i < cnt ∧ kf j = (f (i * 2), f (i * 2 + 1))) ∧ Below w.heap.size w w' := by
  obtain ⟨i0, hi0, hz0, hz1, hz2⟩ := info_parts pinfo_pair
  have hmk : ∀ W : World, (Instr.makeSlice 116 (.int .i64 0) (.int .i64 (cnt : Int))).run Tryz.prog W = .ok (.slice (some ⟨W.heap.size, 0, none⟩) 0 cnt) (W.alloc (.cells (madeCells #[.int .i64 0, .int .i64 0] (cnt * 2)) 112)) := fun W => by
    have := run_make (P := Tryz.prog) W 116 112 i0 _ Tryz.underlying116 hi0 hz0 .i64 .i64 0 (cnt : Int) (by omega) (by omega) (by rw [hz2]; omega) (by omega)
    rw [hz1] at this
    simp only [Int.toNat_natCast] at this
    exact this
  have hlen : (Builtin.len_ #[79] 3 #[.map (some b)]).run Tryz.prog w = .ok (.int .i64 (cnt : Int)) w := by
    have := run_len_map (P := Tryz.prog) (w := w) 79 3 b _ _ (by kernel_rfl) h.heap
    simpa [LEs, goInt] using this
  obtain ⟨W1, hW1⟩ : ∃ W1, W1 = w.alloc (.cells (madeCells #[.int .i64 0, .int .i64 0] (cnt * 2)) 112) := ⟨_, rfl⟩
  have hb1 : Below w.heap.size w W1 := by rw [hW1]; exact nbel_alloc _ _
  have hM1 := h.below hb1
  have hrg := run_range_map (P := Tryz.prog) W1 79 112 115 b _ _ Tryz.underlying79 hM1.heap
  obtain ⟨W2, hW2⟩ : ∃ W2, W2 = W1.alloc (.mapIter (some b) cnt #[] cnt) := ⟨_, rfl⟩
  rw [← hW2] at hrg
  have hb2 : Below W1.heap.size W1 W2 := by rw [hW2]; exact nbel_alloc _ _
  have HS0 : Hid (KyS b cnt kf vf W1.heap.size [] (.slice (some ⟨w.heap.size, 0, none⟩) 0 cnt) w W2) := by
    refine ⟨hM1.below hb2, ⟨#[], by rw [hW2]; exact heap_alloc_new _ _, rfl⟩, List.nodup_nil, fun j hj => absurd hj (by simp), ?_, ⟨_, _, rfl⟩, ?_, by have := hb1.size; omega, hb1.trans (hb2.mono hb1.size)⟩
    · rw [hW2]
      refine World.ownsRow.alloc ?_ _
      rw [hW1]
      exact World.ownsRow_made w _ cnt (Nat.le_refl _) (by unfold maxLen; omega) (size_madeCells _ _)
    · intro g hg
      simp [Value.ownBlock] at hg
      subst hg
      have : W1.heap.size = w.heap.size + 1 := by rw [hW1]; simp
      omega
  have hmk1 : (Instr.makeSlice 116 (.int .i64 0) (.int .i64 (cnt : Int))).run Tryz.prog w = .ok (.slice (some ⟨w.heap.size, 0, none⟩) 0 cnt) W1 := by rw [hW1]; exact hmk w
  have HSZ : Hid (w.heap.size < W1.heap.size) := by show w.heap.size < W1.heap.size; rw [hW1]; simp
  have HBB : Hid (b < w.heap.size) := h.lt
  clear hmk hi0 hz0 hz1 hz2 hb1 hM1 hb2 hW1 hW2 h
  obtain ⟨i1, hi1, hy0, hy1, hy2⟩ := info_parts pinfo_pair
  have HPI := Lib.hid (And.intro hi1 (And.intro hy0 (And.intro hy1 hy2)))
  clear hi1 hy0 hy1 hy2
  obtain ⟨r, hr⟩ : ∃ r, r = W1.heap.size := ⟨_, rfl⟩
  rw [← hr] at HS0 hrg
  have HR := Lib.hid hr
  clear hr
  go_enter Tryz.func79, Tryz.ntmps79
  go_wp2_with fail
  clear hmk1 hlen hrg
  go_loopw [3, 4] (fun kv _ wr => ∃ l : List Nat, Hid (KyS b cnt kf vf r l kv w wr)) (fun kv _ _ => cnt + 1 - lenV kv)
  case atStart => exact ⟨[], HS0⟩
  case round =>
    obtain ⟨l, hS⟩ := hrel
    clear HS0
    obtain ⟨seen, hit, hsl⟩ := hS.out.it
    obtain ⟨g, c, rfl⟩ := hS.out.sl
    have hnx := run_next_at (P := Tryz.prog) wr 0 r b cnt cnt seen _ _ hit hS.out.map.heap (fun x hx => by obtain ⟨j, hj, rfl⟩ := LEs.mem.1 hx; exact hj) (Nat.le_refl _)
    rcases hnx with ⟨hz, hnx⟩ | ⟨e, he, W0, hW0, hnx⟩
    · have hall : ∀ j, j < cnt → j ∈ l := fun j hj => by
        rw [← hsl]
        refine Classical.byContradiction fun hn => ?_
        have : ent kf vf j ∈ (leftOf (LEs cnt kf vf) seen).toList := left_iff.2 ⟨j, hj, rfl, hn⟩
        rw [Array.eq_empty_of_size_eq_zero hz] at this
        simp at this
      have hcl : l.length = cnt := by
        have h1 := nodup_len hS.out.nd hS.out.lt
        have h2 : cnt ≤ l.length := by
          have h3 : (List.range cnt).length ≤ l.length := by
            refine (List.nodup_range (n := cnt)).length_le_of_subset ?_
            intro j hj; exact hall j (List.mem_range.1 hj)
          simpa using h3
        omega
      obtain ⟨d, hd⟩ : ∃ d : Array (Int × Int), d = (l.map kf).toArray := ⟨_, rfl⟩
      have hds : d.size = cnt := by rw [hd]; simp [hcl]
      have hdj : ∀ j, j < cnt → ∃ i, i < cnt ∧ d[i]! = kf j := fun j hj => by
        obtain ⟨i, hi, e⟩ := List.getElem_of_mem (hall j hj)
        refine ⟨i, by omega, ?_⟩
        rw [hd]
        simp [hi, e]
      have hdk : ∀ i, i < cnt → ∃ j, j < cnt ∧ d[i]! = kf j := fun i hi => by
        have hl2 : i < l.length := by omega
        exact ⟨l[i], hS.out.lt _ (List.getElem_mem _), by rw [hd]; simp [hl2]⟩
      obtain ⟨cur, hgh, hcs, htk⟩ : ∃ cur, wr.heap[g]? = some (.cells cur 112 (0, 0)) ∧ cnt * 2 ≤ cur.size ∧ cur.toList.take (cnt * 2) = keyCells kf l := by
        rcases hS.out.own.2 with ⟨h1, _⟩ | ⟨g7, c7, cur, h1, _, h3, h4, _, h6, h7⟩
        · cases h1
        · simp at h1
          obtain ⟨rfl, rfl⟩ := h1
          rw [hcl] at h4 h7
          exact ⟨cur, h3, by rw [h6]; omega, h7⟩
      have hHK : Sort.HoldsK encP 2 wr g 0 d := by
        intro q hq
        rw [Sort.size_flatK, hds] at hq
        have e1 : wr.cell? ⟨g, 0 + q, none⟩ = some (cur.toList[q]'(by simp; omega)) := by
          rw [Nat.zero_add, cell_of_row wr g q cur 112 (0, 0) hgh]
          simp
        have e2 : (cur.toList.take (cnt * 2))[q]? = some ((encP (kf l[q / 2]!))[q % 2]!) := by rw [htk]; exact keyCells_get kf l q (by omega)
        rw [List.getElem?_take_of_lt hq] at e2
        have e3 : d[q / 2]! = kf l[q / 2]! := by
          rw [hd]
          have : q / 2 < l.length := by omega
          simp [this]
        refine ⟨?_, ?_⟩
        · rw [e1, Sort.get_flatK _ _ _ _ (by rw [hds]; exact hq), e3]
          rw [List.getElem?_eq_getElem (by simp; omega)] at e2
          exact congrArg some (Option.some.inj e2)
        · simp [World.frozen?, hgh]
      have hgw : g < wr.heap.size := (Array.getElem?_eq_some_iff.1 hgh).1
      have hg0 : w.heap.size ≤ g := (hS.out.own.lt g rfl).1
      have eg : ∀ args w, (callFunc 93 args).run Tryz.prog w = .ok (.enter 93 args) w := enters_of Tryz.func93 (by kernel_rfl) rfl
      have hcon := AnyQ.slices_SortFunc Tryz.sortL 2 pairAgg pairSize encP (fun _ => rfl) (fun x v hv => by simp [encP] at hv; rcases hv with rfl | rfl <;> rfl) cfP swoP 93 #[] g 0 c d wr eg (fun _ _ _ _ x y => closure_any x y _) hHK hgw (by omega)
      change Calls Tryz.prog 92 _ _ _ at hcon
      rw [hds, ← hcl] at hcon
      have HCON := Lib.hid hcon
      have HOLD := Lib.hid hS.out.old
      have HD := Lib.hid (And.intro hds (And.intro hdj hdk))
      have HHK := Lib.hid hHK
      have HCL := Lib.hid hcl
      clear hcon hHK hgh hcs htk hd hds hdj hdk hS hall hcl eg hit hsl hz
      go_wp2_with fail
      refine HCON.out.mono ?_
      rintro e w5 ⟨rfl, d', n', os, hp, hso, hw5⟩
      have hd5 := HD.out.1
      have hs5 : d'.size = d.size := hp.1
      have hH5 : Sort.HoldsK encP 2 w5 g 0 d' := by rw [hw5]; exact holdsK_sortWorldK encP 2 wr g 0 n' d d' os hgw HHK.out hs5
      have hO5 : Only g wr w5 := by rw [hw5]; exact sort_only encP 2 wr g 0 n' d' os
      have hperm : d'.toList.Perm d.toList := by
        have := hp.2.2
        rw [HCL.out, ← hd5] at this
        have e1 : (d'.extract 0 d.size).toList = d'.toList := by rw [← hs5]; simp
        have e2 : (d.extract 0 d.size).toList = d.toList := by simp
        rw [e1, e2] at this
        exact this
      have HB5 : Hid (Below w.heap.size w w5) := HOLD.out.trans ((hO5.below (B := w.heap.size) hg0 HOLD.out.size).mono (Nat.le_refl _))
      have HRES : Hid (∃ f, IsAt (some ⟨g, 0, none⟩) (cnt * 2) f w5 ∧ (∀ i, i < cnt → ∃ j, j < cnt ∧ kf j = (f (i * 2), f (i * 2 + 1))) ∧ ∀ j, j < cnt → ∃ i, i < cnt ∧ kf j = (f (i * 2), f (i * 2 + 1))) := by
        refine ⟨fun q => if q % 2 = 0 then (d'[q / 2]!).1 else (d'[q / 2]!).2, Or.inr ⟨g, rfl, fun q hq => ?_⟩, fun i hi => ?_, fun j hj => ?_⟩
        · have := (hH5 q (by rw [Sort.size_flatK, hs5, hd5]; exact hq)).1
          rw [Sort.get_flatK _ _ _ _ (by rw [hs5, hd5]; exact hq), Nat.zero_add] at this
          rw [this]
          have h2 : q % 2 = 0 ∨ q % 2 = 1 := by omega
          rcases h2 with h2 | h2 <;> simp [h2, encP]
        · have hm : d'[i]! ∈ d.toList := hperm.mem_iff.1 (by
            rw [getElem!_pos d' i (by omega)]
            simp)
          obtain ⟨k, hk, e⟩ := List.getElem_of_mem hm
          have hk2 : k < cnt := by simp at hk; omega
          obtain ⟨j, hj, e2⟩ := HD.out.2.2 k hk2
          refine ⟨j, hj, ?_⟩
          rw [← e2, getElem!_pos d k (by omega)]
          have e3 : d[k]'(by omega) = d'[i]! := by rw [← e]; simp
          rw [e3]
          have h3 : (i * 2) % 2 = 0 := by omega
          have h4 : (i * 2 + 1) % 2 = 1 := by omega
          have h5 : (i * 2) / 2 = i := by omega
          have h6 : (i * 2 + 1) / 2 = i := by omega
          simp only [h3, h4, h5, h6, if_true]
          simp
        · obtain ⟨k, hk, e⟩ := HD.out.2.1 j hj
          have hm : kf j ∈ d'.toList := hperm.mem_iff.2 (by
            rw [← e, getElem!_pos d k (by omega)]
            simp)
          obtain ⟨i, hi, e2⟩ := List.getElem_of_mem hm
          have hi2 : i < cnt := by simp at hi; omega
          refine ⟨i, hi2, ?_⟩
          rw [← e2]
          have e3 : d'.toList[i] = d'[i]! := by rw [getElem!_pos d' i (by omega)]; simp
          rw [e3]
          have h3 : (i * 2) % 2 = 0 := by omega
          have h4 : (i * 2 + 1) % 2 = 1 := by omega
          have h5 : (i * 2) / 2 = i := by omega
          have h6 : (i * 2 + 1) / 2 = i := by omega
          simp only [h3, h4, h5, h6, if_true]
          simp
      have HG0 := Lib.hid hg0
      clear hw5 hH5 hO5 hperm hp hso
      go_wp2_with fail
      go_ret
      obtain ⟨f, r1, r2, r3⟩ := HRES.out
      exact ⟨⟨g, c, f, by rw [← HCL.out]; rfl, HG0.out, r1, r2, r3⟩, HB5.out⟩
    · obtain ⟨j, hj, rfl, hjn⟩ := left_iff.1 he
      rw [hsl] at hjn
      obtain ⟨W2', hW2⟩ : ∃ W2', W2' = setBlock W0 r (.mapIter (some b) cnt (seen.push j) cnt) := ⟨_, rfl⟩
      have hr0 : W0.heap[r]? = some (.mapIter (some b) cnt seen cnt) := by rcases hW0 with rfl | rfl <;> exact hit
      have hgr : Only r wr W2' := by
        rw [hW2]
        refine ⟨by rcases hW0 with rfl | rfl <;> rfl, by rcases hW0 with rfl | rfl <;> rfl, by rcases hW0 with rfl | rfl <;> rfl, ?_, fun k hk hne => ?_⟩
        · rcases hW0 with rfl | rfl <;> simp [setBlock]
        · have : (setBlock W0 r (.mapIter (some b) cnt (seen.push j) cnt)).heap[k]? = W0.heap[k]? := by
            show (W0.heap.setIfInBounds r _)[k]? = _
            rw [Array.getElem?_setIfInBounds_ne (Ne.symm hne)]
          rw [this]
          rcases hW0 with rfl | rfl <;> rfl
      have hit2 : W2'.heap[r]? = some (.mapIter (some b) cnt (seen.push j) cnt) := by
        rw [hW2]
        have hlt := (Array.getElem?_eq_some_iff.1 hr0).1
        show (W0.heap.setIfInBounds r _)[r]? = _
        rw [Array.getElem?_setIfInBounds_self_of_lt hlt]
      have hM2 : LMap b cnt kf vf W2' := hS.out.map.of_block (hgr.block b hS.out.map.lt (by have := HBB.out; have := hS.out.lo; omega))
      have hen := run_entry_at (P := Tryz.prog) W2' r b cnt seen _ _ (ent kf vf j) hit2 hM2.heap (LEs.mem.2 ⟨j, hj, rfl⟩) (born_nodup _ _ _)
      have hnx2 : (Instr.next (.pointer (some ⟨r, 0, none⟩)) false 0).run Tryz.prog wr = .ok (.tuple #[.bool true, kV (kf j), vf j]) W2' := by rw [hW2]; exact hnx
      have hen2 : (Instr.entry (.pointer (some ⟨r, 0, none⟩))).run Tryz.prog W2' = .ok (.tuple #[kV (kf j), vf j]) W2' := hen
      have hgb : wr.grownBy W2' (some r) := ⟨hgr.os, hgr.tape, hgr.output, hgr.size, fun i hi hne => hgr.block i hi (fun e => hne (by rw [e]))⟩
      have HO2 := Lib.hid (hS.out.own.kept hgb (Or.inr (fun e => hS.out.gne g rfl (by simpa [Value.ownBlock] using e))))
      have HB2 : Hid (Below w.heap.size w W2') := hS.out.old.trans ((hgr.below (B := w.heap.size) hS.out.lo hS.out.old.size).mono (Nat.le_refl _))
      have hs2 : w.heap.size ≤ W2'.heap.size := HB2.out.size
      have HIT := Lib.hid hit2
      have HM2 := Lib.hid hM2
      have HL : Hid ((l ++ [j]).Nodup ∧ (∀ k, k ∈ l ++ [j] → k < cnt) ∧ seen.toList = l ∧ w.heap.size ≤ r ∧ g ≠ r) := by
        refine ⟨?_, fun k hk => ?_, hsl, hS.out.lo, hS.out.gne g rfl⟩
        · rw [List.nodup_append]
          exact ⟨hS.out.nd, by simp, fun a ha b' hb' => by simp at hb'; subst hb'; exact fun e => hjn (e ▸ ha)⟩
        · rcases List.mem_append.1 hk with hk | hk
          · exact hS.out.lt k hk
          · simp at hk; omega
      have hll : l.length < cnt := by
        have := nodup_len HL.out.1 HL.out.2.1
        simp at this
        omega
      obtain ⟨hi1, hy0, hy1, hy2⟩ := HPI.out
      clear hgb hgr hit2 hM2 hsl hit hS hjn hnx hen hW2 hW0 hr0 he
      go_wp2_with (at_builtin; refine wpList_append_own _ rfl _ _ 116 rfl w.heap.size 112 i1 _ 2 16 Tryz.underlying116 hi1 hy0 hy1 hy2 rfl (by decide) _ _ _ rfl ((HO2.out.alloc _).alloc _) ⟨W2'.heap.size + 1, 0, none⟩ 1 1 (encP (kf j)) rfl rfl ?d1 ?d2 ?d3 ?d4 ?d5 ?_)
      case d1 =>
        intro q x hq
        match q, hq with
        | 0, hq => simp [encP] at hq; subst hq; simp [Addr.add]
        | 1, hq => simp [encP] at hq; subst hq; simp [Addr.add]
      case d2 =>
        intro x hx
        simp [encP] at hx
        rcases hx with rfl | rfl <;> rfl
      case d3 => unfold maxLen; omega
      case d4 => omega
      case d5 => simp; omega
      intro v5 W5 hown hgrow hnil
      obtain ⟨g5, c5, rfl⟩ : ∃ g5 c5, v5 = .slice (some ⟨g5, 0, none⟩) (l.length + 1) c5 := by
        rcases hown.2 with ⟨h1, _⟩ | ⟨g5, c5, cur, h1, _⟩
        · exact absurd h1 hnil
        · exact ⟨g5, c5, h1⟩
      obtain ⟨W3, hW3⟩ : ∃ W3, W3 = (W2'.alloc (.cells #[.int .i64 (kf j).1, .int .i64 (kf j).2] 112)).alloc (.cells #[.int .i64 (kf j).1, .int .i64 (kf j).2] 112) := ⟨_, rfl⟩
      rw [← hW3] at hgrow
      have hb3 : Below W2'.heap.size W2' W3 := by rw [hW3]; exact ((Below.refl _ _).alloc (Nat.le_refl _) _).alloc (by simp) _
      have hg0 := (HO2.out.lt g rfl).1
      have hgl := (HO2.out.lt g rfl).2
      have hit5 : W5.heap[r]? = some (.mapIter (some b) cnt (seen.push j) cnt) := by
        have hlt := (Array.getElem?_eq_some_iff.1 HIT.out).1
        rw [hgrow.block r (by have := hb3.size; omega) (by simp [Value.ownBlock]; exact fun e => HL.out.2.2.2.2 e.symm), hb3.block r hlt]
        exact HIT.out
      have HS5 : Hid (KyS b cnt kf vf r (l ++ [j]) (.slice (some ⟨g5, 0, none⟩) (l ++ [j]).length c5) w W5) := by
        refine ⟨?_, ⟨seen.push j, hit5, by rw [Array.toList_push, HL.out.2.2.1]⟩, HL.out.1, HL.out.2.1, ?_, ⟨_, _, rfl⟩, ?_, HL.out.2.2.2.1, ?_⟩
        · refine (HM2.out.below hb3).of_block (hgrow.block b (by have := HBB.out; have := hb3.size; omega) ?_)
          simp [Value.ownBlock]
          have := HBB.out
          omega
        · rw [← keyCells_snoc, List.length_append]; exact hown
        · intro g6 hg6 e
          simp [Value.ownBlock] at hg6
          subst hg6
          subst e
          rcases hown.2 with ⟨h1, _⟩ | ⟨g7, c7, cur, h1, _, h3, _⟩
          · exact absurd h1 hnil
          · simp at h1
            rw [← h1.1, hit5] at h3
            cases h3
        · exact (HB2.out.trans (hb3.mono hs2)).grown hgrow (by have := hb3.size; omega) (fun k e => by simp [Value.ownBlock] at e; omega)
      clear hown hgrow hnil hW3 hb3 hit5
      go_wp2_with fail
      go_roundw
      case rel => exact ⟨l ++ [j], by simpa using HS5⟩
      case measure => simp [lenV]; omega
end Go.Proofs.YtipmjobhegpdgaaGreatDoor
