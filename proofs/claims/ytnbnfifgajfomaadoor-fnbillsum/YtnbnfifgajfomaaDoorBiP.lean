/-
  The water of a tariff's blocks, one by one: the program's iterator.
-/
import Derived.Test.YtnbnfifgajfomaaDoorBiB
import Derived.RangeFuncNested
import Derived.RangeFuncBound
import Derived.RangeFuncCalls
import Derived.RangeFuncLeaves
import Derived.Shelf.Abstract
import Derived.Shelf.RegionOpen
import Derived.WalkKit
import Derived.OwnWalkIn
import Derived.TacticsInMore
import Derived.LoopNIn
import Derived.LoopIn
import Derived.RegionIn
namespace Go.Proofs.YtnbnfifgajfomaaDoor
open Go.RowKit Go.Shelf Go.Deep

attribute [local go_sem] Oper.semAt_some
/-- The places that have come when k rounds are over. -/
def bfr (n k : Nat) : List (Fin n) := (List.range k).filterMap (fun i => if h : i < n then some ⟨i, h⟩ else none)
theorem bfr_succ (n k : Nat) (h : k < n) : bfr n (k + 1) = bfr n k ++ [⟨k, h⟩] := by simp [bfr, List.range_succ, List.filterMap_append, h]
theorem bfr_val (n : Nat) : ∀ k, k ≤ n → (bfr n k).map Fin.val = List.range k
  | 0, _ => rfl
  | k + 1, h => by rw [bfr_succ n k h, List.map_append, bfr_val n k (by omega), List.range_succ]; rfl
theorem bfr_length (n k : Nat) (h : k ≤ n) : (bfr n k).length = k := by
  have := congrArg List.length (bfr_val n k h)
  simpa using this
/-- What the loop's body keeps: the oldest memory, and all cells but numbers and the bill. -/
def KpB (n₀ gb : Nat) (W W' : World) : Prop := Below n₀ W W' ∧ ∀ j c T fr, j ≠ gb → T ≠ 2 → W.heap[j]? = some (.cells c T fr) → W'.heap[j]? = some (.cells c T fr)
theorem KpB.refl (n₀ gb : Nat) (W : World) : KpB n₀ gb W W := ⟨Below.refl _ _, fun _ _ _ _ _ _ h => h⟩
theorem KpB.trans {n₀ gb : Nat} {A B C : World} (h : KpB n₀ gb A B) (k : KpB n₀ gb B C) : KpB n₀ gb A C := ⟨h.1.trans k.1, fun j c T fr hj hT hc => k.2 j c T fr hj hT (h.2 j c T fr hj hT hc)⟩
theorem KpB.alloc {n₀ gb : Nat} {W : World} (o : Obj) (h : n₀ ≤ W.heap.size) : KpB n₀ gb W (W.alloc o) := ⟨(Below.refl _ _).alloc h _, fun _ _ _ _ _ _ hc => (Below.heap_alloc _ _ _ (Array.getElem?_eq_some_iff.1 hc).1).trans hc⟩
theorem KpB.drew {n₀ gb : Nat} {A B : World} (h : KpB n₀ gb A B) : KpB n₀ gb A B.drew := ⟨h.1.drew, h.2⟩
theorem KpB.row {n₀ gb : Nat} {A B : World} {g n : Nat} {T : TypeId} {F : Nat → Value} (h : KpB n₀ gb A B) (hr : A.rowIs g T n F) (hg : g ≠ gb) (hT : T ≠ 2) : B.rowIs g T n F := by
  obtain ⟨c, h1, h2, h3⟩ := hr
  exact ⟨c, h.2 _ _ _ _ hg hT h1, h2, h3⟩
theorem bparts_any (t : Bi.T) (a : Option Addr) (k : Nat) (x : Int) (w : World) :
    Calls Tryd.prog 64 #[tfV t a k, .int .i64 x] w fun e w' => e = .returned (.func (.func 73) #[] #[.pointer (some ⟨w.heap.size + 1, 0, none⟩), .pointer (some ⟨w.heap.size, 0, none⟩)]) ∧ w' = (w.alloc (.cells #[.int .i64 t.day, .slice a t.bn k, .int .i64 t.sew, .int .i64 t.tax] 25)).alloc (.cells #[.int .i64 x] 2) := by
  go_enter Tryd.func64, Tryd.ntmps64
  go_wp2
  go_ret
  exact ⟨rfl, rfl⟩
set_option maxRecDepth 100000 in
set_option maxHeartbeats 4000000 in
theorem bparts_in (m l Bt Bw gb n₀ : Nat) (t : Bi.T) (a : Option Addr) (k : Nat) (x : Int) (hr : Bi.Blocks t) (hx : 0 ≤ x ∧ x ≤ 1000000) (hab : ∀ b, a = some ⟨b, 0, none⟩ → b < n₀) (hBt : Bt ≠ gb) (J Jx : List (Fin t.bn) → World → Prop)
    (W : World) (hgb : gb < W.heap.size) (hn0 : n₀ ≤ W.heap.size) (hJ : AbidesFrom W.heap.size J)
    (hY : ∀ (pre : List (Fin t.bn)) (y : Fin t.bn) (W : World), J pre W → pre.length < t.bn → YieldAt Fence.wide (m - 1) Tryd.prog l #[.agg #[.int .i64 (t.B (y.1 * 2)), .int .i64 (t.B (y.1 * 2 + 1))], .int .i64 (Bi.part t x y.1)] W fun e W' =>
      (e = .returned (.bool true) ∧ J (pre ++ [y]) W' ∧ KpB n₀ gb W W') ∨ (e = .returned (.bool false) ∧ Jx (pre ++ [y]) W'))
    (hT : W.rowIs Bt 25 4 (rowN (tfL t a k))) (hW0 : W.cell? ⟨Bw, 0, none⟩ = some (.int .i64 x)) (hc : IsAt a (t.bn * 2) t.B W) (h0 : J [] W) :
    CallsIn Fence.wide m Tryd.prog 73 #[.func (.yield l) #[] #[], .pointer (some ⟨Bw, 0, none⟩), .pointer (some ⟨Bt, 0, none⟩)] W fun e W' => (∃ v, e = .returned v) ∧
      ((∃ ys, ys.map Fin.val = List.range t.bn ∧ J ys W') ∨ (∃ pre, True ∧ Jx pre W')) := by
  have HC := Lib.hid hc
  have HT := Lib.hid hT
  have HR := Lib.hid hr
  have HAB := Lib.hid hab
  have HJ := Lib.hid hJ
  have HBT := Lib.hid hBt
  have HN0 := Lib.hid hn0
  have HGB := Lib.hid hgb
  obtain ⟨⟨t0, t1, t2, t3⟩, _⟩ := rowN4 hT
  have hbn := hr.1
  have hbz : (t.bn : Int) ≤ 10 := by omega
  clear hc hT hr hab hJ hBt hn0 hgb
  refine callsIn_of_wp Tryd.func73 rfl trivial ?_ rfl
  simp only [Tryd.ntmps73, List.size_toArray, List.length_cons, List.length_nil, Nat.reduceAdd, Nat.reduceSub, Array.replicate_succ, Array.replicate_zero, List.push_toArray, List.append_toArray, List.nil_append, List.cons_append]
  gi_wp2
  clear t0 t1 t2 t3 hW0
  gi_loopw [4, 5, 13] (fun lv av iv wr => ∃ (j : Nat) (z : Int), j ≤ t.bn ∧ lv = .int .i64 z ∧ av = .int .i64 (Bi.ahead t j) ∧ iv = .int .i64 j ∧ Hid (j < t.bn → z = Bi.left t x j) ∧ Hid (J (bfr t.bn j) wr) ∧ Hid (KpB n₀ gb W wr))
    (fun _ _ iv _ => t.bn - (intOf iv).toNat)
  case atStart => exact ⟨0, x, Nat.zero_le _, rfl, rfl, rfl, (fun _ => by show x = max 0 (x - 0); omega), h0, KpB.refl _ _ _⟩
  case round =>
    obtain ⟨j, z, hj, rfl, rfl, rfl, hz, hJs, hK⟩ := hrel
    by_cases hlt : j < t.bn
    · have hltz : (j : Int) < (t.bn : Int) := by omega
      have hz1 := hz.out hlt
      have HOKb := Lib.hid (HR.out.2 j hlt)
      have ha := Bi.ahead_bd j (fun i hi => HR.out.2 i (by omega)) hlt
      have hlb := Bi.left_bd (i := j) ha.1 hx
      have hpb := Bi.part_bd HOKb.out ha.1 hx
      have HNX : Hid (Bi.ahead t (j + 1) = t.B (j * 2)) := rfl
      have hRT := hK.out.row HT.out HBT.out (by decide)
      have hbt := hRT.lt
      obtain ⟨⟨t0, t1, t2, t3⟩, _⟩ := rowN4 hRT
      clear hRT
      obtain ⟨b, rfl, q0, q1⟩ := (HC.out.same (w' := wr) (fun b e _ => hK.out.1.block b (HAB.out b e))).at2 hlt
      obtain ⟨A, hA⟩ : ∃ A, A = Bi.ahead t j := ⟨_, rfl⟩
      obtain ⟨up, hup⟩ : ∃ up, up = t.B (j * 2) := ⟨_, rfl⟩
      obtain ⟨pr, hpr⟩ : ∃ pr, pr = t.B (j * 2 + 1) := ⟨_, rfl⟩
      obtain ⟨P, hP⟩ : ∃ P, P = Bi.part t x j := ⟨_, rfl⟩
      rw [← hz1] at hlb
      have HP1 : Hid (∀ h : j + 1 < t.bn, P = min z (up - A) ∧ A + 1 ≤ up ∧ up ≤ 1000000) := fun h => by
        have := HOKb.out.2 h
        exact ⟨by rw [hP, Bi.part_min HOKb.out h, hz1, hup, hA], by rw [hA, hup]; exact this.1, by rw [hup]; exact this.2⟩
      have HP2 : Hid (¬ j + 1 < t.bn → P = z) := fun h => by rw [hP, Bi.part_last h, hz1]
      have HL2 : Hid (j + 1 < t.bn → z - P = Bi.left t x (j + 1)) := fun h => by rw [hz1, hP]; exact Bi.left_next HOKb.out h
      have HY := hY (bfr t.bn j) ⟨j, hlt⟩ (wr.alloc (.cells #[.int .i64 up, .int .i64 pr] 73)) (HJ.out _ _ _ none hJs.out (World.grownBy_alloc _ _ _) (fun r e => by cases e)) (by rw [bfr_length _ _ hj]; exact hlt)
      rw [← hup, ← hpr, ← hP] at HY
      rw [← hup] at q0 HNX
      rw [← hpr] at q1
      rw [← hP] at hpb
      rw [← hA] at ha ⊢
      clear hz1 hA hup hpr hP hz
      obtain ⟨fn, tmps, assign, body, hy, hRd⟩ := HY
      have hwb : b < wr.heap.size := World.block_lt_of_cell? _ _ q0
      have HKA : Hid (KpB n₀ gb W (wr.alloc (.cells #[.int .i64 up, .int .i64 pr] 73))) := hK.out.trans (KpB.alloc _ (Nat.le_trans HN0.out hK.out.1.size))
      have HRB : Hid ((wr.alloc (.cells #[.int .i64 up, .int .i64 pr] 73)).rowIs wr.heap.size 73 2 (rowN [.int .i64 up, .int .i64 pr])) := rowN_alloc _ _ _
      have HFR : Hid (bfr t.bn (j + 1) = bfr t.bn j ++ [⟨j, hlt⟩]) := bfr_succ _ _ hlt
      have HGN : Hid (wr.heap.size ≠ gb) := by have := hK.out.1.size; have := HGB.out; show _ ≠ _; omega
      by_cases e0 : j + 1 < t.bn
      · have e1 : (j : Int) < (t.bn : Int) - 1 := by omega
        obtain ⟨hp1, hp2, hp3⟩ := HP1.out e0
        by_cases e2 : z ≤ up - A
        · obtain rfl : P = z := by omega
          clear HP1 HP2 hp1
          gi_wp2
          refine ⟨fun h => (by cases h), hRd.mono ?_⟩
          rintro e W3 (⟨rfl, hJ3, hk3⟩ | ⟨rfl, hJx3⟩)
          · have hR3 := hk3.row HRB.out HGN.out (by decide)
            obtain ⟨⟨c0, c1⟩, _⟩ := rowN2 hR3
            have HK3 : Hid (KpB n₀ gb W W3.drew) := (HKA.out.trans hk3).drew
            have HJ3 : Hid (J (bfr t.bn (j + 1)) W3.drew) := by show J _ _; rw [HFR.out]; exact HJ.out _ _ _ none hJ3 ⟨rfl, rfl, rfl, Nat.le_refl _, fun _ _ _ => rfl⟩ (fun r e => by cases e)
            clear hR3 hk3 hJ3 hJs hK t0 t1 t2 t3 q0 q1 hRd hy
            gi_wp2
            gi_region
            gi_wp2
            go_roundw
            case rel => exact ⟨j + 1, _, by omega, rfl, by rw [HNX.out], by go_num, (fun h => by have := HL2.out h; omega), HJ3, HK3⟩
            case measure => simp [intOf]; omega
          · gi_wp2
            refine bodyPost_ret (results_none rfl _ _ _) rfl ?_
            exact ⟨⟨_, rfl⟩, .inr ⟨_, trivial, hJx3⟩⟩
        · obtain rfl : P = up - A := by omega
          clear HP1 HP2 hp1
          gi_wp2
          refine ⟨fun h => (by cases h), hRd.mono ?_⟩
          rintro e W3 (⟨rfl, hJ3, hk3⟩ | ⟨rfl, hJx3⟩)
          · have hR3 := hk3.row HRB.out HGN.out (by decide)
            obtain ⟨⟨c0, c1⟩, _⟩ := rowN2 hR3
            have HK3 : Hid (KpB n₀ gb W W3.drew) := (HKA.out.trans hk3).drew
            have HJ3 : Hid (J (bfr t.bn (j + 1)) W3.drew) := by show J _ _; rw [HFR.out]; exact HJ.out _ _ _ none hJ3 ⟨rfl, rfl, rfl, Nat.le_refl _, fun _ _ _ => rfl⟩ (fun r e => by cases e)
            clear hR3 hk3 hJ3 hJs hK t0 t1 t2 t3 q0 q1 hRd hy
            gi_wp2
            gi_region
            gi_wp2
            go_roundw
            case rel => exact ⟨j + 1, _, by omega, rfl, by rw [HNX.out], by go_num, (fun h => HL2.out h), HJ3, HK3⟩
            case measure => simp [intOf]; omega
          · gi_wp2
            refine bodyPost_ret (results_none rfl _ _ _) rfl ?_
            exact ⟨⟨_, rfl⟩, .inr ⟨_, trivial, hJx3⟩⟩
      · have e1 : ¬ (j : Int) < (t.bn : Int) - 1 := by omega
        obtain rfl : P = z := HP2.out e0
        clear HP1 HP2
        gi_wp2
        refine ⟨fun h => (by cases h), hRd.mono ?_⟩
        rintro e W3 (⟨rfl, hJ3, hk3⟩ | ⟨rfl, hJx3⟩)
        · have hR3 := hk3.row HRB.out HGN.out (by decide)
          obtain ⟨⟨c0, c1⟩, _⟩ := rowN2 hR3
          have HK3 : Hid (KpB n₀ gb W W3.drew) := (HKA.out.trans hk3).drew
          have HJ3 : Hid (J (bfr t.bn (j + 1)) W3.drew) := by show J _ _; rw [HFR.out]; exact HJ.out _ _ _ none hJ3 ⟨rfl, rfl, rfl, Nat.le_refl _, fun _ _ _ => rfl⟩ (fun r e => by cases e)
          clear hR3 hk3 hJ3 hJs hK t0 t1 t2 t3 q0 q1 hRd hy
          gi_wp2
          gi_region
          gi_wp2
          go_roundw
          case rel => exact ⟨j + 1, _, by omega, rfl, by rw [HNX.out], by go_num, (fun h => absurd h e0), HJ3, HK3⟩
          case measure => simp [intOf]; omega
        · gi_wp2
          refine bodyPost_ret (results_none rfl _ _ _) rfl ?_
          exact ⟨⟨_, rfl⟩, .inr ⟨_, trivial, hJx3⟩⟩
    · obtain rfl : j = t.bn := by omega
      gi_wp2
      go_end0
      exact ⟨⟨_, rfl⟩, .inl ⟨_, bfr_val _ _ (Nat.le_refl _), hJs.out⟩⟩
theorem bparts_stops (m Bt Bw gb n₀ : Nat) (t : Bi.T) (a : Option Addr) (k : Nat) (x : Int) (hr : Bi.Blocks t) (hx : 0 ≤ x ∧ x ≤ 1000000) (hab : ∀ b, a = some ⟨b, 0, none⟩ → b < n₀) (hBt : Bt ≠ gb) (w : World) (hgb : gb < w.heap.size) (hn0 : n₀ ≤ w.heap.size)
    (hT : w.rowIs Bt 25 4 (rowN (tfL t a k))) (hW0 : w.cell? ⟨Bw, 0, none⟩ = some (.int .i64 x)) (hc : IsAt a (t.bn * 2) t.B w) :
    SeqStopsK Fence.wide m Tryd.prog 73 #[.pointer (some ⟨Bw, 0, none⟩), .pointer (some ⟨Bt, 0, none⟩)] (fun y : Fin t.bn => #[Value.agg #[.int .i64 (t.B (y.1 * 2)), .int .i64 (t.B (y.1 * 2 + 1))], .int .i64 (Bi.part t x y.1)]) (KpB n₀ gb) (fun ys => ys.map Fin.val = List.range t.bn) (fun _ => True) t.bn w := fun l J Jx W hW hJ _ hY h0 =>
  bparts_in m l Bt Bw gb n₀ t a k x hr hx hab hBt J Jx W (Nat.lt_of_lt_of_le hgb hW.size) (Nat.le_trans hn0 hW.size) hJ hY (nrow_below hT hW) ((hW.cell (World.block_lt_of_cell? _ _ hW0)).trans hW0) (hc.below hW) h0
end Go.Proofs.YtnbnfifgajfomaaDoor
