/-
  The contract of the program's SewerSpills.
-/
import Derived.Test.YtokbhkcpkilcmaaDoorSwR3
import Derived.Test.YtokbhkcpkilcmaaDoorSwOwn
namespace Go.Proofs.YtokbhkcpkilcmaaDoor
open Go.RowKit Go.Deep

theorem spills_len (tk : Nat → Int) (m : Nat) : (Sw.spills tk m).length ≤ m := by unfold Sw.spills; exact Nat.le_trans (List.length_filter_le _ _) (by simp)
theorem spillF_none {n M : Nat} {rs : Nat → Sw.Rc} {q : Nat → Sw.Rain} (h : Sw.runF n M rs q = none) : Sw.spillF n M rs q = [] := by unfold Sw.spillF; rw [h]
theorem spillF_some {n M : Nat} {rs : Nat → Sw.Rc} {q : Nat → Sw.Rain} {t : Sw.RSt} (h : Sw.runF n M rs q = some t) : Sw.spillF n M rs q = Sw.spills t.tk n := by unfold Sw.spillF; rw [h]
theorem runF_some {n M : Nat} {rs : Nat → Sw.Rc} {q : Nat → Sw.Rain} {t : Sw.RSt} (h : Sw.runF n M rs q = some t) : Sw.Right n rs ∧ M ≤ 60 ∧ Sw.runs n rs q M = some t := by
  by_cases k : 400 < n ∨ 60 < M ∨ ¬ Sw.Right n rs
  · rw [Sw.runF_bad k] at h; cases h
  · rw [Sw.runF_in k] at h
    by_cases hr : Sw.Right n rs
    · exact ⟨hr, by omega, h⟩
    · exact absurd (Or.inr (Or.inr hr)) k
theorem out_field2 (a b c d e : Value) (w : World) : (Instr.field 27 (.agg #[a, b, c, d, e]) 2).run Tryd.prog w = .ok c w := by kernel_rfl

set_option maxRecDepth 100000 in
set_option maxHeartbeats 4000000 in
theorem implSpills_any (a ra : Option Addr) (n cn M cr : Nat) (rs : Nat → Sw.Rc) (q : Nat → Sw.Rain) (w : World) (h : RcsAt a n rs w) (h2 : RainsAt ra M q w) (hq : ∀ k, k < M → (q k).len ≤ 4194304) (hg : Et w) :
    Calls Tryd.prog 22 #[.slice a n cn, .slice ra M cr] w fun e w' => (∃ v, e = .returned v ∧ w'.ownsRow w.heap.size 2 1 v (Sw.spillF n M rs q).length (natVs (Sw.spillF n M rs q))) ∧ Below w.heap.size w w' := by
  obtain ⟨i1, hi1, hy0, hy1, hy2⟩ := info_parts info_i64
  have H := Lib.hid h
  have H2 := Lib.hid h2
  have HG := Lib.hid hg
  have HQ := Lib.hid hq
  have hfd := out_field2
  clear h h2 hg hq
  go_enter Tryd.func22, Tryd.ntmps22
  go_wp2_with fail
  refine (implRun_any a ra n cn M cr rs q _ H.out H2.out HQ.out HG.out).mono ?_
  rintro e w1 ⟨hE, hb⟩
  have HB1 := Lib.hid hb
  clear hb
  rcases hE with ⟨k, hk, hk0, rfl⟩ | ⟨t, gl, gf, gt, c, hk, rfl, hL⟩
  · have HK := Lib.hid (spillF_none hk)
    clear hk
    go_wp2_with fail
    go_loopw [5, 13] (fun ov iv wr => ov = .slice none 0 0 ∧ iv = .int .i64 0 ∧ Hid (wr = w1)) (fun _ _ _ => 0)
    case atStart => exact ⟨rfl, rfl, rfl⟩
    case round =>
      obtain ⟨rfl, rfl, hW⟩ := hrel
      obtain rfl := hW.out
      clear hW
      go_wp2_with fail
      go_ret
      exact ⟨⟨_, rfl, by rw [HK.out]; exact World.ownsRow_nil _ _ _ _⟩, HB1.out⟩
  · have hn := (runF_some hk).1.1
    have HK := Lib.hid (spillF_some hk)
    have HL := Lib.hid hL.2.2.2.2
    have hn1 : 1 ≤ n := hn.1
    have hn2 : n ≤ 40 := hn.2
    have zt : gt < w1.heap.size := hL.2.2.2.2.lt
    have zB : w.heap.size ≤ gt := hL.1.2.2
    clear hk hL hn
    go_wp2_with fail
    clear hfd
    go_loopw [5, 13] (fun ov iv wr => ∃ (i : Nat), i ≤ n ∧ iv = .int .i64 i ∧ Hid (wr.ownsRow w1.heap.size 2 1 ov (Sw.spills t.tk i).length (natVs (Sw.spills t.tk i))) ∧ Hid (Below w.heap.size w wr) ∧ Hid (InBlk gt n t.tk wr ∧ w1.heap.size ≤ wr.heap.size)) (fun _ iv _ => n - (intOf iv).toNat)
    case atStart => exact ⟨0, Nat.zero_le _, rfl, World.ownsRow_nil _ _ _ _, HB1, HL.out, Nat.le_refl _⟩
    case round =>
      obtain ⟨i, hi, rfl, hO, hB, hT⟩ := hrel
      clear HB1 HL
      obtain ⟨av, cv, rfl⟩ := own_shape hO.out
      by_cases hlt : i < n
      · have hltz : (i : Int) < (n : Int) := by omega
        have hlen := spills_len t.tk i
        have zw : w1.heap.size ≤ wr.heap.size := hT.out.2
        have t0 := hT.out.1.cell hlt
        by_cases hs : 0 < t.tk i
        · have hA := Lib.hid (show Sw.spills t.tk (i + 1) = Sw.spills t.tk i ++ [i] by rw [Sw.spills_succ, if_pos hs])
          go_wp2_with (at_builtin; refine wpList_append_lies _ rfl _ _ 23 rfl w1.heap.size 2 i1 (.int .i64 0) 1 8 Tryd.underlying23 hi1 hy0 hy1 hy2 rfl (by decide) _ _ _ rfl (hO.out.alloc _) ⟨wr.heap.size, 0, none⟩ 1 1 [.int .i64 (i : Int)] rfl rfl ?a1 ?a2 ?a3 ?a4 ?a5 ?a6 (wr.heap.size + 1) ?a7 ?_)
          try (case a1 => (intro j u hj; match j, hj with
            | 0, hj => (simp at hj; subst hj; simp [Addr.add])))
          try (case a2 => first | rfl | (intro u hu; simp at hu; subst hu; rfl))
          try (case a3 => omega)
          try (case a4 => (unfold maxLen; omega))
          try (case a5 => omega)
          try (case a6 => first | omega | (simp; omega))
          try (case a7 => simp)
          intro g cap W3 hown hgrow hat hlt3
          have keep : ∀ k, k < w1.heap.size → W3.heap[k]? = wr.heap[k]? := fun k hk => by
            rw [hgrow.block k (by simp; omega) (fun e => by have := (hO.out.lt k e.symm).1; omega), blk_alloc_lt _ _ _ (by omega)]
          have HO3 : Hid (W3.ownsRow w1.heap.size 2 1 (.slice (some ⟨g, 0, none⟩) ((Sw.spills t.tk i).length + 1) cap) (Sw.spills t.tk (i + 1)).length (natVs (Sw.spills t.tk (i + 1)))) := Lib.hid (by
            rw [hA.out, natVs_app]; simpa using hown)
          have HB3 : Hid (Below w.heap.size w W3) := (hB.out.alloc hB.out.size _).grown hgrow (by simp; have := hB.out.size; omega) (fun k hk => by have := (hO.out.lt k hk).1; omega)
          have HT3 : Hid (InBlk gt n t.tk W3 ∧ w1.heap.size ≤ W3.heap.size) := ⟨hT.out.1.block (keep _ (by omega)), by have := hgrow.size; simp at this; omega⟩
          clear hown hgrow hat hlt3 hO hB hT hA keep t0
          go_wp2_with fail
          go_roundw
          case rel => exact ⟨i + 1, by omega, by go_num, HO3, HB3, HT3⟩
          case measure => simp [intOf]; omega
        · have hA := Lib.hid (show Sw.spills t.tk (i + 1) = Sw.spills t.tk i by rw [Sw.spills_succ, if_neg hs, List.append_nil])
          go_wp2_with fail
          go_roundw
          case rel => exact ⟨i + 1, by omega, by go_num, Lib.hid (by rw [hA.out]; exact hO.out), hB, hT⟩
          case measure => simp [intOf]; omega
      · obtain rfl : i = n := by omega
        go_wp2_with fail
        go_ret
        have hz : w.heap.size ≤ w1.heap.size := by omega
        refine ⟨⟨_, rfl, ?_⟩, hB.out⟩
        rw [HK.out]
        obtain ⟨h1, h2⟩ := hO.out
        refine ⟨h1, ?_⟩
        rcases h2 with h2 | ⟨g, cp, cur, e1, e2, e3⟩
        · exact Or.inl h2
        · exact Or.inr ⟨g, cp, cur, e1, by omega, e3⟩
end Go.Proofs.YtokbhkcpkilcmaaDoor
