/-
  A queue of numbers: a list whose beginning is cut off and whose end grows.
-/
import Derived.Test.YtipmjobhegpdgaaGreatDoorPlRp
import Derived.Maps.AppendAt
namespace Go.Proofs.YtipmjobhegpdgaaGreatDoor
open Go Go.RowKit Go.Deep

/-- A queue in memory of the call's own. -/
def Que (v : Value) (l : List Int) (B : Nat) (W : World) : Prop := ∃ g o c cur, v = .slice (some ⟨g, o, none⟩) l.length c ∧ B ≤ g ∧ W.heap[g]? = some (.cells cur 2 (0, 0)) ∧ l.length ≤ c ∧ c ≤ maxLen ∧ (0 < c → o + c ≤ cur.size) ∧ ∀ i z, l[i]? = some z → cur[o + i]? = some (.int .i64 z)
theorem Que.lt {v : Value} {l : List Int} {B : Nat} {W : World} (h : Que v l B W) : ∀ k, v.ownBlock = some k → B ≤ k ∧ k < W.heap.size := by
  obtain ⟨g, o, c, cur, rfl, hB, hg, _⟩ := h
  intro k hk
  simp [Value.ownBlock] at hk
  subst hk
  exact ⟨hB, (Array.getElem?_eq_some_iff.1 hg).1⟩
theorem Que.kept {v : Value} {l : List Int} {B : Nat} {W W' : World} (h : Que v l B W) (e : ∀ k, v.ownBlock = some k → W'.heap[k]? = W.heap[k]?) : Que v l B W' := by
  obtain ⟨g, o, c, cur, rfl, hB, hg, r⟩ := h
  exact ⟨g, o, c, cur, rfl, hB, (e g rfl).trans hg, r⟩
theorem Que.below {v : Value} {l : List Int} {B : Nat} {W W' : World} (h : Que v l B W) (hb : Below W.heap.size W W') : Que v l B W' := h.kept (fun k hk => hb.block k (h.lt k hk).2)
/-- The first is read, and cut off. -/
theorem Que.first {v : Value} {x : Int} {l : List Int} {B : Nat} {W : World} (h : Que v (x :: l) B W) : ∃ g o c, v = .slice (some ⟨g, o, none⟩) (l.length + 1) c ∧ W.cell? ⟨g, o, none⟩ = some (.int .i64 x) ∧ l.length + 1 ≤ c ∧ (Que (.slice (if c = 1 then some ⟨g, o, none⟩ else some ⟨g, o + 1, none⟩) l.length (c - 1)) l B W) := by
  obtain ⟨g, o, c, cur, rfl, hB, hg, hc, hm, hs, hl⟩ := h
  simp at hc
  refine ⟨g, o, c, by simp, ?_, hc, ?_⟩
  · have := hl 0 x (by simp)
    rw [cell_of_row W g o cur _ (0, 0) hg]
    simpa using this
  · by_cases e : c = 1
    · have hl0 : l = [] := List.eq_nil_of_length_eq_zero (by omega)
      subst hl0
      rw [if_pos e]
      exact ⟨g, o, c - 1, cur, by simp, hB, hg, by simp, by omega, by omega, fun i z hz => by simp at hz⟩
    · rw [if_neg e]
      refine ⟨g, o + 1, c - 1, cur, by simp, hB, hg, by omega, by omega, fun _ => by have := hs (by omega); omega, fun i z hz => ?_⟩
      have := hl (i + 1) z (by simpa using hz)
      rw [show o + 1 + i = o + (i + 1) by omega]
      exact this
theorem run_append_room_off {P : Program} (w : World) (t ty e : TypeId) (i : TypeInfo) (ht : P.underlying t = some (.slice e)) (hi : P.info? e = some i) (h1s : i.size = 1)
    (g o sLen sCap : Nat) (cur : Array Value) (hg : w.heap[g]? = some (.cells cur e (0, 0)))
    (a : Addr) (m c : Nat) (news : List Value) (hl : news.length = m) (hnews : ∀ j u, news[j]? = some u → w.cell? (a.add j) = some u) (h1 : ∀ u ∈ news, u.oneCell' = true)
    (hroom : sLen + m ≤ sCap) (hfit : o + sLen + news.length ≤ cur.size) :
    (Builtin.append_ #[t, t] ty #[.slice (some ⟨g, o, none⟩) sLen sCap, .slice (some a) m c]).run P w =
      .ok (.slice (some ⟨g, o, none⟩) (sLen + m) sCap) (w.setRow g (cur.toList.take (o + sLen) ++ news ++ cur.toList.drop (o + sLen + news.length)).toArray) := by
  have hf := run_firstCells_some (P := P) w i.size m a m c news (by rw [h1s]; omega) hnews
  have hst := run_storeCells_at P g (o + sLen) e news 0 cur w hg (by simpa using hfit) h1
  simp only [Nat.add_zero] at hst
  have ha : (⟨g, o, none⟩ : Addr).add sLen = ⟨g, o + sLen, none⟩ := by unfold Addr.add; split <;> simp_all
  rw [h1s] at hf
  simp [Builtin.append_, run_underlying ht, sizeOf, typeInfo, hi, h1s, Builtin.lenOf, hroom, hf, ha, hst]
theorem Que.push {v : Value} {l : List Int} {B : Nat} {W : World} (h : Que v l B W) (x : Int) (a : Addr) (hx : W.cell? a = some (.int .i64 x)) (ha0 : a.add 0 = a) (hl : l.length + 1 ≤ 1000000) (hB : B ≤ W.heap.size) :
    ∃ v' W', (Builtin.append_ #[23, 23] 23 #[v, .slice (some a) 1 1]).run Tryz.prog W = .ok v' W' ∧ Que v' (l ++ [x]) B W' ∧ W.grownBy W' v.ownBlock ∧ (v'.ownBlock = v.ownBlock ∨ v'.ownBlock = some W.heap.size) := by
  obtain ⟨i0, hi, hz0, hz1, hz2⟩ := info_parts rinfo_i64
  obtain ⟨g, o, c, cur, rfl, hBg, hg, hc, hm, hs, hcl⟩ := h
  have hnews : ∀ j u, ([Value.int .i64 x] : List Value)[j]? = some u → W.cell? (a.add j) = some u := fun j u hu => by
    match j, hu with
    | 0, hu => simp at hu; rw [← hu, ha0]; exact hx
  by_cases hroom : l.length + 1 ≤ c
  · have hfit := hs (by omega)
    have hr := run_append_room_off (P := Tryz.prog) W 23 23 2 i0 Tryz.underlying23 hi hz1 g o l.length c cur hg a 1 1 [.int .i64 x] rfl hnews (fun u hu => by simp at hu; subst hu; rfl) hroom (by simp; omega)
    refine ⟨_, _, hr, ⟨g, o, c, _, by simp, hBg, setRow_heap W g cur _ _ _ hg, by simpa using hroom, hm, fun _ => by simp; omega, fun i z hz => ?_⟩, ⟨rfl, rfl, rfl, by simp, fun k _ hk => setRow_other W g k _ (fun e => hk (by simp [Value.ownBlock, e]))⟩, Or.inl (by simp [Value.ownBlock])⟩
    have hlt : i < (l ++ [x]).length := (List.getElem?_eq_some_iff.1 hz).1
    simp at hlt
    have htl : (cur.toList.take (o + l.length)).length = o + l.length := by simp; omega
    rw [List.getElem?_toArray, List.append_assoc]
    by_cases e : i = l.length
    · subst e
      rw [List.getElem?_append_right (by omega), htl]
      simp at hz
      simp [hz]
    · rw [List.getElem?_append_left (by omega), List.getElem?_take_of_lt (by omega)]
      have hz2 : l[i]? = some z := by rw [List.getElem?_append_left (by omega)] at hz; exact hz
      have := hcl i z hz2
      rw [Array.getElem?_toList]
      exact this
  · have holds : ∀ j u, (l.map (Value.int .i64))[j]? = some u → W.cell? ((⟨g, o, none⟩ : Addr).add j) = some u := fun j u hu => by
      rw [List.getElem?_map] at hu
      have hjl : j < l.length := by
        rcases Nat.lt_or_ge j l.length with h1 | h1
        · exact h1
        · rw [List.getElem?_eq_none h1] at hu; cases hu
      rw [List.getElem?_eq_getElem hjl] at hu
      have h2 := hcl j l[j] (List.getElem?_eq_getElem hjl)
      have ha : (⟨g, o, none⟩ : Addr).add j = ⟨g, o + j, none⟩ := by unfold Addr.add; split <;> simp_all
      rw [ha, cell_of_row W g (o + j) cur _ (0, 0) hg, h2]
      simpa using hu
    have hr := run_append_grow (P := Tryz.prog) W 23 23 2 i0 _ Tryz.underlying23 hi hz0 ⟨g, o, none⟩ l.length c (l.map (Value.int .i64)) (by rw [hz1]; simp) holds a 1 1 [.int .i64 x] (by rw [hz1]; rfl) hnews (by omega) (by omega) (growslice_fits (by omega) (by rw [hz2]; omega))
    have hge := grownCap_ge W (l.length + 1) c 2
    have hcm : grownCap W (l.length + 1) c 2 ≤ maxLen := grownCap_le_maxLen W _ _ _ (by unfold maxLen; omega)
    refine ⟨_, _, hr, ⟨W.heap.size, 0, _, _, by simp, hB, heap_alloc_new W.drew _, by simpa using hge, hcm, fun _ => ?_, fun i z hz => ?_⟩, ⟨rfl, rfl, rfl, by simp, fun k hk _ => heap_alloc_old W.drew _ hk⟩, Or.inr (by simp [Value.ownBlock])⟩
    · have hcs : (Value.int IntKind.i64 0).cells.size = 1 := rfl
      simp [size_zeroCells, hcs]
      omega
    · have hlt : i < (l ++ [x]).length := (List.getElem?_eq_some_iff.1 hz).1
      have e1 : ((l.map (Value.int .i64)).toArray ++ [Value.int .i64 x].toArray)[i]? = some (.int .i64 z) := by
        have : ((l.map (Value.int .i64)).toArray ++ [Value.int .i64 x].toArray) = ((l ++ [x]).map (Value.int .i64)).toArray := by simp
        rw [this, List.getElem?_toArray, List.getElem?_map, hz]
        rfl
      rw [Nat.zero_add, Array.getElem?_append_left (by simp at hlt ⊢; omega)]
      exact e1
end Go.Proofs.YtipmjobhegpdgaaGreatDoor
