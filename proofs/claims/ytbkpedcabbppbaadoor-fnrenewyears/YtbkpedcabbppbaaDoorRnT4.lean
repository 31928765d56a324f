/-
  RenewTable: the program's.
-/
import Derived.Test.YtbkpedcabbppbaaDoorRnT3
import Derived.Test.YtbkpedcabbppbaaDoorRnSs
import Derived.Laws.AppendOwn
import Derived.Lib.Slices
namespace Go.Proofs.YtbkpedcabbppbaaDoor
open Go.RowKit Go.Deep

/-- How many rows the table has. -/
noncomputable def Rn.tn (n : Nat) (f : Nat → Int) (z : Int) : Nat := if dB (Rn.Right n f ∧ Rn.BudOk z) = true then n + 1 else 0
theorem Rn.tn_yes {n : Nat} {f : Nat → Int} {z : Int} (h : Rn.Right n f ∧ Rn.BudOk z) : Rn.tn n f z = n + 1 := by unfold Rn.tn; rw [if_pos (dB_tt h)]
theorem Rn.tn_no {n : Nat} {f : Nat → Int} {z : Int} (h : ¬ (Rn.Right n f ∧ Rn.BudOk z)) : Rn.tn n f z = 0 := by unfold Rn.tn; rw [if_neg (by rw [dB_ff h]; simp)]
theorem Rn.tn_le (n : Nat) (f : Nat → Int) (z : Int) : Rn.tn n f z ≤ 41 := by
  by_cases h : Rn.Right n f ∧ Rn.BudOk z
  · rw [Rn.tn_yes h]; have := h.1.1; omega
  · rw [Rn.tn_no h]; omega
/-- What is told of a table. -/
def TbEnd (B m N : Nat) (L : Nat → Nat → Int) (e : Ending) (W : World) : Prop := ∃ a k, e = .returned (.slice a m k) ∧ SsO B W.heap.size m a k (fun _ => N) L W
def vsOf (F : Nat → Value) (n : Nat) : List Value := (List.range n).map F
theorem vsOf_len (F : Nat → Value) (n : Nat) : (vsOf F n).length = n := by simp [vsOf]
theorem vsOf_get (F : Nat → Value) (n : Nat) {j : Nat} (hj : j < n) : (vsOf F n)[j]? = some (F j) := by simp [vsOf, hj]
theorem vs_own {T : TypeId} {B n : Nat} {v : Value} {F : Nat → Value} {W : World} (h : W.ownsRow B T 1 v n (vsOf F n)) (hn : 1 ≤ n) : ∃ g c M G, v = .slice (some ⟨g, 0, none⟩) n c ∧ B ≤ g ∧ n ≤ M ∧ W.rowIs g T M G ∧ ∀ j, j < n → G j = F j := by
  rcases h.2 with h2 | ⟨g, cap, cur, e1, e2, e3, e4, e5, e6, e7⟩
  · omega
  · refine ⟨g, _, cap, fun i => cur[i]?.getD undef, e1, e2, by omega, ⟨cur, e3, by simpa using e6, fun i hi => ?_⟩, fun j hj => ?_⟩
    · show cur[i]? = some (cur[i]?.getD undef)
      rw [Array.getElem?_eq_getElem (by omega)]
      rfl
    · have h1 : (cur.toList.take (n * 1))[j]? = (vsOf F n)[j]? := by rw [e7]
      rw [List.getElem?_take, if_pos (by omega), Array.getElem?_toList] at h1
      show cur[j]?.getD undef = _
      rw [h1, vsOf_get F n hj]
      rfl
theorem rinfo_ss : (Tryd.prog.info? 24).map (fun i => (i.zero, i.size, i.bytes)) = some (some (.slice none 0 0), 1, 24) := by kernel_rfl
set_option maxRecDepth 100000 in
set_option maxHeartbeats 2000000 in
theorem rclone_any (b n cap : Nat) (F : Nat → Value) (w : World) (h : ∀ i, i < n → w.cell? ⟨b, i, none⟩ = some (F i)) (hF : ∀ i, i < n → ∃ a l c, F i = .slice a l c) (hn2 : n ≤ 1048576) (hn1 : 1 ≤ n) :
    Calls Tryd.prog 48 #[.slice (some ⟨b, 0, none⟩) n cap] w fun e w' => (∃ g c M G, e = .returned (.slice (some ⟨g, 0, none⟩) n c) ∧ w.heap.size ≤ g ∧ n ≤ M ∧ w'.rowIs g 24 M G ∧ ∀ j, j < n → G j = F j) ∧ Below w.heap.size w w' := by
  obtain ⟨i0, hi, hz0, hz1, hz2⟩ := info_parts rinfo_ss
  have q22 : ∀ (w : World) (a : Option Addr) (n c n' c' : Nat), (binOp .eql 43 (.slice a n c) (.slice none n' c')).run Tryd.prog w = .ok (.bool a.isNone) w := fun w a n c n' c' => Lib.run_eql_slice_nil w _ _ a n c n' c' Tryd.underlying43
  have H := Lib.hid h
  have HF := Lib.hid hF
  clear h hF
  go_enter Tryd.func48, Tryd.ntmps48
  go_wp2_with (at_builtin; refine wpList_append_own _ rfl _ _ 43 rfl w.heap.size 24 i0 (.slice none 0 0) 1 24 Tryd.underlying43 hi hz0 hz1 hz2 rfl (by decide) _ _ _ rfl (World.ownsRow_made w #[] 0 (Nat.le_refl _) (Nat.zero_le _) rfl) ⟨b, 0, none⟩ n cap (vsOf F n) rfl ?qc1 ?qc2 ?qc3 ?qc4 ?qc5 ?qc6 ?_)
  case qc1 => simp [vsOf_len]
  case qc2 =>
    intro j u hj
    have hjn : j < n := by
      have := (List.getElem?_eq_some_iff.1 hj).1
      simpa [vsOf_len] using this
    rw [Addr.add_lit]
    refine Lib.cell?_alloc_some _ ?_
    rw [Nat.zero_add, H.out j hjn, ← hj, vsOf_get F n hjn]
  case qc3 =>
    intro u hu
    unfold vsOf at hu
    obtain ⟨x, hx, rfl⟩ := List.mem_map.1 hu
    obtain ⟨a, l, c, e⟩ := HF.out x (List.mem_range.1 hx)
    rw [e]
    rfl
  case qc4 => unfold maxLen; omega
  case qc5 => omega
  case qc6 => simp
  intro v' w1 hown hgrow hnil
  have HB : Hid (Below w.heap.size w w1) := ((Below.refl _ w).alloc (Nat.le_refl _) _).grown hgrow (by simp) (by intro k hk; simp [Value.ownBlock] at hk; omega)
  have hown' : w1.ownsRow w.heap.size 24 1 v' n (vsOf F n) := by simpa using hown
  obtain ⟨g, c, M, G, rfl, hg, hM, hr, hG⟩ := vs_own hown' hn1
  have HO := Lib.hid hr
  have HG := Lib.hid hG
  clear hown hown' hgrow hnil hr hG
  go_wp2
  go_ret
  exact ⟨⟨g, c, M, G, rfl, hg, hM, HO.out, HG.out⟩, HB.out⟩
theorem SsO.low {B B' hi n k : Nat} {a : Option Addr} {LN : Nat → Nat} {L : Nat → Nat → Int} {W : World} (h : SsO B hi n a k LN L W) (hb : B' ≤ B) : SsO B' hi n a k LN L W := by
  rcases h with h | ⟨g, aj, cj, e, h1, h2, h3, h4⟩
  · exact Or.inl h
  · refine Or.inr ⟨g, aj, cj, e, ⟨by omega, h1.2⟩, h2, fun j hj => ?_, h4⟩
    rcases h3 j hj with q | ⟨b, q1, q2, q3⟩
    · exact Or.inl q
    · exact Or.inr ⟨b, q1, ⟨by omega, q2.2⟩, q3⟩
/-- Where a table's rows lie, as the list of an answer. -/
theorem WrV.ss {cs : Array Value} {B n N : Nat} {f : Nat → Int} {W W' : World} (h : WrV cs B n N f W) (hb : Below W.heap.size W W') {g M : Nat} {G : Nat → Value} (hg : B ≤ g) (hM : n + 1 ≤ M) (hr : W'.rowIs g 24 M G) (hG : ∀ j, j < n + 1 → cs[j]? = some (G j)) (c : Nat) : SsO B W'.heap.size (n + 1) (some ⟨g, 0, none⟩) c (fun _ => N) (Rn.T f n) W' := by
  obtain ⟨h1, gs, h2, h3, h4, h5⟩ := h
  refine Or.inr ⟨g, fun j => some ⟨gs j, 0, none⟩, fun _ => N, rfl, ⟨hg, hr.lt⟩, ⟨M, G, hM, hr, fun j hj => ?_⟩, fun j hj => ?_, fun i j b hi hj e1 e2 => ?_⟩
  · have := (h2 j (by omega)).symm.trans (hG j hj)
    simpa using this.symm
  · have q := (h4 j (by omega)).1.below hb
    exact Or.inr ⟨gs j, rfl, ⟨(h4 j (by omega)).2, q.lt⟩, q⟩
  · rw [← e2] at e1
    simp at e1
    rcases Nat.lt_trichotomy i j with q | q | q
    · have := h5 i j q (by omega); omega
    · exact q
    · have := h5 j i q (by omega); omega
set_option maxRecDepth 100000 in
set_option maxHeartbeats 4000000 in
theorem implTable_any (a : Option Addr) (n cap : Nat) (f : Nat → Int) (z : Int) (w : World) (h : IsAt a (n * 2) f w) (hs : n ≤ 1048576) :
    Calls Tryd.prog 23 #[.slice a n cap, .int .i64 z] w fun e w' => TbEnd w.heap.size (Rn.tn n f z) (z.toNat + 1) (Rn.T f n) e w' ∧ Below w.heap.size w w' := by
  have H := Lib.hid h
  clear h
  by_cases c : Rn.Right n f ∧ Rn.BudOk z
  case neg =>
    rw [Rn.tn_no c]
    have HC := Lib.hid (dB_ff c)
    clear c
    go_enter Tryd.func23, Tryd.ntmps23
    go_wp2_with fail
    refine (rright_any a n cap f z _ H.out hs).mono ?_
    rintro e w1 ⟨rfl, hb⟩
    rw [HC.out]
    have HB := Lib.hid hb
    clear hb
    go_wp2_with fail
    go_ret
    exact ⟨⟨none, 0, rfl, Or.inl ⟨rfl, rfl, rfl⟩⟩, HB.out⟩
  rw [Rn.tn_yes c]
  have HC := Lib.hid (dB_tt c)
  have HR := Lib.hid c.1
  have hn40 := c.1.1
  obtain ⟨b, rfl⟩ : ∃ b : Nat, z = (b : Int) := ⟨z.toNat, by have := c.2.1; omega⟩
  have hb3 : b ≤ 300 := by have := c.2.2; omega
  rw [Int.toNat_natCast]
  obtain ⟨N, hN⟩ : ∃ N, N = b + 1 := ⟨_, rfl⟩
  rw [← hN]
  obtain ⟨m, hm⟩ : ∃ m, m = n + 1 := ⟨_, rfl⟩
  have e15 : IntKind.i64.wrap ((n : Int) + 1) = (m : Int) := by rw [rwrap (by omega) (by omega), hm]; simp
  have hm41 : (m : Int) ≤ 41 := by omega
  have hm41n : m ≤ 41 := by omega
  have hm0 : (0 : Int) ≤ (m : Int) := by omega
  have HM := Lib.hid hm
  have HN := Lib.hid hN
  rw [← hm]
  clear c hm hN
  go_enter Tryd.func23, Tryd.ntmps23
  go_wp2_with fail
  refine (rright_any a n cap f b _ H.out hs).mono ?_
  rintro e w1 ⟨rfl, hb⟩
  rw [HC.out]
  have HB := Lib.hid hb
  clear hb
  go_wp2_with fail
  refine (worthsOf_any a n cap f b N _ (H.out.below HB.out) HR.out hb3 HN.out).mono ?_
  rintro e w2 ⟨⟨cs, rfl, hV⟩, hb⟩
  have HV := Lib.hid hV
  have HL : Hid (w.heap.size ≤ w1.heap.size) := HB.out.size
  replace HB : Hid (Below w.heap.size w w2) := HB.out.trans (hb.mono HB.out.size)
  have hsz : (Tryd.prog.info? 73).map (·.size) = some cs.size := by rw [hV.1]; kernel_rfl
  have hcs : cs.all (·.oneCell') = true := by
    obtain ⟨h1, gs, h2, h3, _⟩ := hV
    rw [Array.all_eq_true_iff_forall_mem]
    intro v hv
    obtain ⟨i, hi, rfl⟩ := Array.getElem_of_mem hv
    by_cases q : i ≤ n
    · have := h2 i q
      rw [Array.getElem?_eq_getElem hi] at this
      rw [Option.some.inj this]; rfl
    · have := h3 i (by omega) (by omega)
      rw [Array.getElem?_eq_getElem hi] at this
      rw [Option.some.inj this]; rfl
  have h41 : cs.size = 41 := hV.1
  have HLE : Hid (w1.heap.size ≤ w2.heap.size) := hb.size
  clear hV hb
  go_wp2_with (refine wpList_store_row rfl 73 _ _ rfl w2.heap.size cs rfl rfl 73 _ (heap_alloc_new w2 _) hsz (by rw [h41]; rfl) hcs ?_)
  rw [World.setRow_alloc_new]
  obtain ⟨W, hW⟩ : ∃ W, W = w2.alloc (.cells cs 73) := ⟨_, rfl⟩
  have HB2 : Hid (Below w2.heap.size w2 W) := by show Below _ _ _; rw [hW]; exact nbel_alloc _ _
  have HC2 : Hid (∀ i, i < m → W.cell? ⟨w2.heap.size, i, none⟩ = some (cs[i]?.getD undef)) := fun i hi => by
    rw [hW, cell_of_row _ _ i cs 73 (0, 0) (heap_alloc_new w2 _), Array.getElem?_eq_getElem (by omega)]
    rfl
  rw [← hW]
  clear hW
  refine (rclone_any w2.heap.size m 41 (fun i => cs[i]?.getD undef) W HC2.out ?_ (by omega) (by have := HM.out; omega)).mono ?_
  · intro i hi
    obtain ⟨_, gs, h2, _⟩ := HV.out
    have := HM.out
    exact ⟨_, _, _, by rw [h2 i (by omega)]; rfl⟩
  rintro e w3 ⟨⟨g, c, M, G, rfl, hg, hMM, hr, hG⟩, hb⟩
  have HEND : Hid (TbEnd w.heap.size m N (Rn.T f n) (.returned (.slice (some ⟨g, 0, none⟩) m c)) w3) := by
    have e := HM.out
    subst e
    have hlow := HLE.out
    have q := HV.out.ss ((HB2.out).trans (hb.mono HB2.out.size)) (g := g) (M := M) (G := G) (by have := HB2.out.size; omega) hMM hr (fun j hj => by rw [hG j hj, Array.getElem?_eq_getElem (by omega)]; rfl) c
    exact ⟨_, _, rfl, q.low HL.out⟩
  have HB3 : Hid (Below w.heap.size w w3) := HB.out.trans ((HB2.out.trans (hb.mono HB2.out.size)).mono HB.out.size)
  clear hr hG hb HV HB HB2 HC2
  go_wp2_with fail
  go_ret
  exact ⟨HEND.out, HB3.out⟩
end Go.Proofs.YtbkpedcabbppbaaDoor
