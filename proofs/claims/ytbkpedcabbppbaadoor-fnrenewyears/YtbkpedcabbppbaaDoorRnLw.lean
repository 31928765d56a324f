/-
  The laws' own small functions, over lists of numbers; an append in a drawn region; a copy of assets.
-/
import Derived.Test.YtbkpedcabbppbaaDoorRnDs
import Derived.Test.YtbkpedcabbppbaaDoorRnLawB
import Derived.Test.YtbkpedcabbppbaaDoorRnT6
import Derived.Test.YtbkpedcabbppbaaDoorReg
import Derived.Maps.AppendAt
namespace Go.Proofs.YtbkpedcabbppbaaDoor
open Go Go.RowKit Go.Deep

set_option maxRecDepth 100000 in
set_option maxHeartbeats 1000000 in
theorem nhas_any (a : Option Addr) (n cap : Nat) (f : Nat → Int) (x : Int) (t : Bool) (w : World) (h : IsAt a n f w) (hn : n ≤ 1048576) (ht : t = true ↔ ∃ j, j < n ∧ f j = x) :
    Calls Tryd.prog 29 #[.slice a n cap, .int .i64 x] w fun e w' => e = .returned (.bool t) ∧ w' = w := by
  have H := Lib.hid h
  have HT := Lib.hid ht
  clear h ht
  go_enter Tryd.func29, Tryd.ntmps29
  go_wp2_with fail
  go_loopw [5] (fun iv wr => ∃ (i : Nat), i ≤ n ∧ iv = .int .i64 i ∧ wr = w ∧ Hid (∀ j, j < i → f j ≠ x)) (fun iv _ => n - (intOf iv).toNat)
  case atStart => exact ⟨0, Nat.zero_le _, rfl, rfl, fun j hj => absurd hj (Nat.not_lt_zero _)⟩
  case round =>
    obtain ⟨i, hi, rfl, rfl, hP⟩ := hrel
    by_cases hlt : i < n
    · have hltz : (i : Int) < (n : Int) := by omega
      obtain ⟨b, e, c0⟩ := H.out.at1 hlt
      subst e
      by_cases c : f i = x
      · have HC : Hid (t = true) := HT.out.2 ⟨i, hlt, c⟩
        have c' : (f i == x) = true := by simp [c]
        clear c
        go_wp2_with fail
        go_ret
        exact ⟨by rw [HC.out]; rfl, rfl⟩
      · have HC := Lib.hid c
        have c' : (f i == x) = false := by simp [c]
        clear c
        go_wp2_with fail
        go_roundw
        case rel => exact ⟨i + 1, by omega, by go_num, by trivial, fun j hj => by
          by_cases e : j = i
          · subst e; exact HC.out
          · exact hP.out j (by omega)⟩
        case measure => simp [intOf]; omega
    · obtain rfl : i = n := by omega
      have HC : Hid (t = false) := by
        show t = false
        cases hq : t with
        | false => rfl
        | true =>
          obtain ⟨j, hj, e⟩ := HT.out.1 hq
          exact absurd e (hP.out j hj)
      go_wp2_with fail
      go_ret
      exact ⟨by rw [HC.out]; rfl, rfl⟩
set_option maxRecDepth 100000 in
set_option maxHeartbeats 2000000 in
theorem nsame_same (a b : Option Addr) (n ca cb : Nat) (f : Nat → Int) (w : World) (h1 : IsAt a n f w) (h2 : IsAt b n f w) (hn : n ≤ 1048576) :
    Calls Tryd.prog 30 #[.slice a n ca, .slice b n cb] w fun e w' => e = .returned (.bool true) ∧ Below w.heap.size w w' := by
  have H1 := Lib.hid h1
  have H2 := Lib.hid h2
  clear h1 h2
  go_enter Tryd.func30, Tryd.ntmps30
  go_wp2_with fail
  go_loopw [5] (fun iv wr => ∃ (i : Nat), i ≤ n ∧ iv = .int .i64 i ∧ Hid (Below w.heap.size w wr)) (fun iv _ => n - (intOf iv).toNat)
  case atStart => exact ⟨0, Nat.zero_le _, rfl, Below.refl _ _⟩
  case round =>
    obtain ⟨i, hi, rfl, hB⟩ := hrel
    by_cases hlt : i < n
    · have hltz : (i : Int) < (n : Int) := by omega
      obtain ⟨b1, rfl, k1⟩ := (H1.out.below hB.out).at1 hlt
      obtain ⟨b2, rfl, k2⟩ := (H2.out.below hB.out).at1 hlt
      go_wp2_with fail
      go_region
      go_wp2_with fail
      go_roundw
      case rel => exact ⟨i + 1, by omega, by go_num, hB.out.drew⟩
      case measure => simp [intOf]; omega
    · obtain rfl : i = n := by omega
      go_wp2_with fail
      go_ret
      exact ⟨rfl, hB.out⟩
set_option maxRecDepth 100000 in
set_option maxHeartbeats 2000000 in
theorem ncopy_any (a : Option Addr) (m cap : Nat) (f : Nat → Int) (w : World) (h : IsAt a m f w) (hm : m ≤ 1000) (ha : a = none → cap = 0) :
    Calls Tryd.prog 22 #[.slice a m cap] w fun e w' => (∃ g c, e = .returned (.slice (some ⟨g, 0, none⟩) m c) ∧ w.heap.size ≤ g ∧ IsAt (some ⟨g, 0, none⟩) m f w') ∧ Below w.heap.size w w' := by
  obtain ⟨i0, hi, hz0, hz1, hz2⟩ := info_parts roinfo
  have H := Lib.hid h
  clear h
  obtain ⟨ab, hab⟩ : ∃ ab : Addr, (a = some ab ∨ (a = none ∧ m = 0)) ∧ ∀ j, j < m → w.cell? (ab.add j) = some (.int .i64 (f j)) := by
    by_cases hm0 : m = 0
    · subst hm0
      cases a with
      | none => exact ⟨⟨0, 0, none⟩, Or.inr ⟨rfl, rfl⟩, fun j hj => absurd hj (Nat.not_lt_zero _)⟩
      | some b => exact ⟨b, Or.inl rfl, fun j hj => absurd hj (Nat.not_lt_zero _)⟩
    · obtain ⟨b, e, _⟩ := H.out.at1 (show 0 < m by omega)
      refine ⟨_, Or.inl e, fun j hj => ?_⟩
      obtain ⟨b', e', c'⟩ := H.out.at1 hj
      rw [e] at e'
      cases e'
      rw [Addr.add_lit]
      simpa using c'
  obtain ⟨ho, hcl⟩ := hab
  rcases ho with rfl | ⟨rfl, rfl⟩
  case inr =>
    obtain rfl := ha rfl
    go_enter Tryd.func22, Tryd.ntmps22
    go_wp2_with fail
    go_ret
    exact ⟨⟨w.heap.size, ⟨0, rfl⟩, Nat.le_refl _, Or.inl rfl⟩, (Below.refl _ _).alloc (Nat.le_refl _) _⟩
  have HC := Lib.hid hcl
  clear hcl
  go_enter Tryd.func22, Tryd.ntmps22
  go_wp2_with (at_builtin; refine wpList_append_own _ rfl _ _ 24 rfl w.heap.size 2 i0 (.int .i64 0) 1 8 Tryd.underlying24 hi hz0 hz1 hz2 rfl (by decide) _ _ _ rfl (World.ownsRow_made w #[] 0 (Nat.le_refl _) (Nat.zero_le _) rfl) ab m cap ((List.range m).map fun j => Value.int .i64 (f j)) rfl ?qc1 ?qc2 ?qc3 ?qc4 ?qc5 ?qc6 ?_)
  case qc1 => simp
  case qc2 =>
    intro j u hj
    have hjn : j < m := by
      have := (List.getElem?_eq_some_iff.1 hj).1
      simpa using this
    refine Lib.cell?_alloc_some _ ?_
    rw [HC.out j hjn, ← hj]
    simp [hjn]
  case qc3 =>
    intro u hu
    obtain ⟨x, _, rfl⟩ := List.mem_map.1 hu
    rfl
  case qc4 => unfold maxLen; omega
  case qc5 => omega
  case qc6 => simp
  intro v' w1 hown hgrow hnil
  have HB : Hid (Below w.heap.size w w1) := ((Below.refl _ w).alloc (Nat.le_refl _) _).grown hgrow (by simp) (by intro k hk; simp [Value.ownBlock] at hk; omega)
  rcases hown.2 with ⟨e1, _⟩ | ⟨g, c, cur, e1, h2, h3, _, _, h6, h7⟩
  · exact absurd e1 (by simpa using hnil)
  · subst e1
    have HAT : Hid (IsAt (some ⟨g, 0, none⟩) m f w1) := Or.inr ⟨g, rfl, fun j hj => by
      have e2 : (cur.toList.take (m * 1))[j]? = some (.int .i64 (f j)) := by
        rw [h7]
        simp [hj]
      rw [List.getElem?_take_of_lt (by omega), Array.getElem?_toList] at e2
      rw [cell_of_row w1 g j cur _ (0, 0) h3, e2]⟩
    clear hown hgrow hnil h3 h6 h7
    go_wp2_with fail
    go_ret
    exact ⟨⟨g, c, rfl, h2, HAT.out⟩, HB.out⟩
/-- An append inside a region: where the new list lies. -/
theorem ap_at {P : Program} {ops : Array Oper} {o : Oper} {a : Act} {w : World} {K : Act → World → Prop} {Q : Exit → Act → World → Prop} {E : Prop}
    (hg : o.guard = none) (s x : Operand) (t : TypeId) (hop : o.op = Op.call { callee := Callee.builtin Builtin.append, args := #[s, x], argTypes := #[t, t] }) (B : Nat)
    (e : TypeId) (i : TypeInfo) (z : Value) (size bytes : Nat) (h1 : P.underlying t = some (.slice e)) (h2 : P.info? e = some i) (h3 : i.zero = some z) (h4 : i.size = size) (h5 : i.bytes = bytes) (h6 : z.cells.size = size) (h7 : 0 < size)
    (v : Value) (n : Nat) (olds : List Value) (hs : a.eval s = v) (hown : w.ownsRow B e size v n olds)
    (ad : Addr) (m c : Nat) (news : List Value) (hx : a.eval x = .slice (some ad) m c) (hn : news.length = m * size) (hc : ∀ j u, news[j]? = some u → w.cell? (ad.add j) = some u) (h1c : ∀ u ∈ news, u.oneCell' = true)
    (b1 : n + m ≤ maxLen) (b2 : (n + m) * bytes ≤ 140737488355328) (hB : B ≤ w.heap.size)
    (hK : ∀ v' w', w'.ownsRow B e size v' (n + m) (olds ++ news) → w.grownBy w' v.ownBlock → (v'.ownBlock = v.ownBlock ∨ v'.ownBlock = some w.heap.size) → K (a.put o.dst v') w') :
    if Region.wanted o (yielded ops a.tmps) = true then Oper.wp P o a w K Q else E := by
  have hw : Region.wanted o (yielded ops a.tmps) = true := by simp [Region.wanted, hg]
  rw [if_pos hw]
  obtain ⟨v', w', hrun, r1, r2, _, r3⟩ := run_append_own_at (P := P) w B t o.type e i z size bytes h1 h2 h3 h4 h5 h6 h7 v n olds hown ad m c news hn hc h1c b1 b2 hB
  unfold Oper.wp
  simp [execOp, hop, resolve, invoke, builtin, hs, hx, hrun, Result.andThen]
  exact hK v' w' r1 r2 r3
theorem asVs_len (F : Nat → Int) (l : List Nat) : (Rn.asVs F l).length = l.length * 2 := by
  induction l with
  | nil => rfl
  | cons x l ih =>
    have e : Rn.asVs F (x :: l) = Value.int .i64 (F (x * 2)) :: Value.int .i64 (F (x * 2 + 1)) :: Rn.asVs F l := by simp [Rn.asVs]
    rw [e]
    simp only [List.length_cons, ih]
    omega
theorem asVs_one {F : Nat → Int} {l : List Nat} : ∀ u ∈ Rn.asVs F l, u.oneCell' = true := by
  intro u hu
  unfold Rn.asVs at hu
  rw [List.mem_flatMap] at hu
  obtain ⟨q, _, h⟩ := hu
  simp at h
  rcases h with rfl | rfl <;> rfl
theorem as_cells {g n : Nat} {F : Nat → Int} {W : World} (h : IsAt (some ⟨g, 0, none⟩) (n * 2) F W) : ∀ j u, (Rn.asVs F (List.range n))[j]? = some u → W.cell? ((⟨g, 0, none⟩ : Addr).add j) = some u := by
  intro j u hj
  have hl : j < n * 2 := by
    have := (List.getElem?_eq_some_iff.1 hj).1
    rwa [asVs_len, List.length_range] at this
  rw [Rn.asVs_at F _ j (by rw [List.length_range]; exact hl), ← Rn.sub_range F hl] at hj
  obtain ⟨b, e, c⟩ := h.at1 hl
  cases e
  rw [Addr.add_lit, Nat.zero_add, c]
  exact hj
/-- A copy of the assets. -/
theorem as_copy {n : Nat} {F : Nat → Int} {B : Nat} {v : Value} {W W1 : World} {g0 : Nat} (hW : B ≤ W.heap.size) (hown : W1.ownsRow B 53 2 v (0 + n) ([] ++ Rn.asVs F (List.range n))) (hg : W.grownBy W1 (some g0)) (h0 : B ≤ g0) : (∃ a c, v = .slice a n c ∧ IsAt a (n * 2) F W1) ∧ Below B W W1 := by
  constructor
  · have q : W1.ownsRow B 53 2 v (List.range n).length (Rn.asVs F (List.range n)) := by rw [List.length_range]; simpa using hown
    obtain ⟨a, c, e, h1, _⟩ := ras_own q
    rw [List.length_range] at e h1
    exact ⟨a, c, e, risat_congr h1 (fun j hj => (Rn.sub_range F hj).symm)⟩
  · exact ⟨hg.os, hg.tape, hg.output, hg.size, fun k hk => hg.block k (by omega) (fun e => by cases e; omega)⟩
end Go.Proofs.YtbkpedcabbppbaaDoor
