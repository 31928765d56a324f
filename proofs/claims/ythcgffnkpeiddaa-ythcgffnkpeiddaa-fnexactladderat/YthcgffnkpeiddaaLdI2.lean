/-
  The program's walk over a ladder's rungs, from the last to the first: the iterator's contract.
-/
import Derived.Test.YthcgffnkpeiddaaLdI1
import Derived.RangeFuncNested
import Derived.RangeFuncBound
import Derived.RangeFuncCalls
import Derived.RangeFuncLeaves
import Derived.Shelf.Abstract
import Derived.Shelf.RegionOpen
import Derived.WalkKit
import Derived.OwnWalkIn
import Derived.TacticsInMore
import Derived.LoopNIn
import Derived.LoopIn
import Derived.RegionIn
namespace Go.Proofs.Ythcgffnkpeiddaa
open Go.RowKit Go.Shelf Go.Deep

attribute [local go_sem] Oper.semAt_some
/-- The places that have come when k rounds are over. -/
def dn (n k : Nat) : List Nat := (List.range k).map (fun j => n - 1 - j)
theorem dn_succ (n k : Nat) : dn n (k + 1) = dn n k ++ [n - 1 - k] := by simp [dn, List.range_succ]
theorem dn_length (n k : Nat) : (dn n k).length = k := by simp [dn]
/-- What the loop's body keeps for the iterator. -/
def Kept (n₀ Bs : Nat) (W W' : World) : Prop := Below n₀ W W' ∧ W'.heap[Bs]? = W.heap[Bs]?
set_option maxRecDepth 100000 in
set_option maxHeartbeats 2000000 in
theorem back_in (m l Bs n₀ g len cap : Nat) (f : (Nat → Nat) × (Nat → Nat) × (Nat → Nat)) (hg : g < n₀) (hlen : len ≤ 1048576) (J Jx : List Nat → World → Prop)
    (hY : ∀ (pre : List Nat) (x : Nat) (W : World), J pre W → pre.length < len → YieldAt Fence.wide (m - 1) Try.prog l #[.int .i64 (x : Int), rgV (f.1 x) (f.2.1 x) (f.2.2 x)] W fun e W' =>
      (e = .returned (.bool true) ∧ J (pre ++ [x]) W' ∧ Kept n₀ Bs W W') ∨ (e = .returned (.bool false) ∧ Jx (pre ++ [x]) W'))
    (W : World) (hBs : Boxed W Bs 35 (.slice (some ⟨g, 0, none⟩) len cap)) (hc : RgBlk g len f W) (h0 : J [] W) :
    CallsIn Fence.wide m Try.prog 41 #[.func (.yield l) #[] #[], .pointer (some ⟨Bs, 0, none⟩)] W fun e W' => (∃ v, e = .returned v) ∧
      ((∃ ys, ys = dn len len ∧ J ys W') ∨ (∃ pre, True ∧ Jx pre W')) := by
  have HC := Lib.hid hc
  have HB := Lib.hid hBs
  have HG := Lib.hid hg
  have hb0 := hBs.cell
  clear hc hBs hg
  refine callsIn_of_wp Try.func41 rfl trivial ?_ rfl
  simp only [Try.ntmps41, List.size_toArray, List.length_cons, List.length_nil, Nat.reduceAdd, Nat.reduceSub, Array.replicate_succ, Array.replicate_zero, List.push_toArray, List.append_toArray, List.nil_append, List.cons_append]
  gi_wp2
  clear hb0
  gi_loopw [3] (fun i wr => ∃ k : Nat, k ≤ len ∧ i = .int .i64 ((len : Int) - 1 - k) ∧ J (dn len k) wr ∧ Kept n₀ Bs W wr)
    (fun i _ => (intOf i + 1).toNat)
  case atStart => exact ⟨0, Nat.zero_le _, by go_num, h0, Below.refl _ _, rfl⟩
  case round =>
    obtain ⟨k, hk, rfl, hJs, hnx⟩ := hrel
    by_cases hlt : k < len
    · obtain ⟨fn, tmps, assign, body, hy, hR⟩ := hY _ (len - 1 - k) wr hJs (by rw [dn_length]; exact hlt)
      have e1 : (len : Int) - 1 - k = ((len - 1 - k : Nat) : Int) := by omega
      rw [e1]
      have hb1 : wr.cell? ⟨Bs, 0, none⟩ = some (.slice (some ⟨g, 0, none⟩) len cap) := (show Boxed wr Bs _ _ from hnx.2.trans HB.out).cell
      obtain ⟨c0, c1, c2⟩ : wr.cell? ⟨g, (len - 1 - k) * 3, none⟩ = some (.float .f64 (f.1 (len - 1 - k))) ∧ wr.cell? ⟨g, (len - 1 - k) * 3 + 1, none⟩ = some (.float .f64 (f.2.1 (len - 1 - k))) ∧ wr.cell? ⟨g, (len - 1 - k) * 3 + 2, none⟩ = some (.float .f64 (f.2.2 (len - 1 - k))) := by
        have h := HC.out.cell (i := len - 1 - k) (by omega)
        exact ⟨(hnx.1.cell HG.out).trans h.1, (hnx.1.cell HG.out).trans h.2.1, (hnx.1.cell HG.out).trans h.2.2⟩
      have hi : len - 1 - k < len := by omega
      have HE : Hid (dn len (k + 1) = dn len k ++ [len - 1 - k]) := dn_succ len k
      have HI : Hid ((len - 1 - k : Nat) + k + 1 = len) := by show _ = _; omega
      generalize len - 1 - k = i at *
      have hi0 : (0 : Int) ≤ (i : Int) := by omega
      have hiz : (i : Int) < (len : Int) := by omega
      clear e1
      gi_wp2
      refine ⟨fun h => (by cases h), hR.mono ?_⟩
      rintro e W3 (⟨rfl, hJ3, hk3⟩ | ⟨rfl, hJx3⟩)
      · gi_wp2
        go_roundw
        case rel => exact ⟨k + 1, by omega, by have := HI.out; go_num, by rw [HE.out]; exact hJ3, hnx.1.trans hk3.1, hk3.2.trans hnx.2⟩
        case measure => simp [intOf]
      · gi_wp2
        refine bodyPost_ret (results_none rfl _ _ _) rfl ?_
        exact ⟨⟨_, rfl⟩, .inr ⟨_, trivial, hJx3⟩⟩
    · obtain rfl : k = len := by omega
      have e1 : (k : Int) - 1 - k = -1 := by omega
      rw [e1]
      gi_wp2
      go_end0
      exact ⟨⟨_, rfl⟩, .inl ⟨_, rfl, hJs⟩⟩
theorem back_stops (m Bs n₀ g len cap : Nat) (f : (Nat → Nat) × (Nat → Nat) × (Nat → Nat)) (hg : g < n₀) (hlen : len ≤ 1048576) (w : World) (hBs : Boxed w Bs 35 (.slice (some ⟨g, 0, none⟩) len cap)) (hc : RgBlk g len f w) :
    SeqStopsK Fence.wide m Try.prog 41 #[.pointer (some ⟨Bs, 0, none⟩)] (fun x : Nat => #[Value.int .i64 (x : Int), rgV (f.1 x) (f.2.1 x) (f.2.2 x)]) (Kept n₀ Bs) (fun ys => ys = dn len len) (fun _ => True) len w := fun l J Jx W hW _ _ hY h0 =>
  back_in m l Bs n₀ g len cap f hg hlen J Jx hY W ((hW.block Bs hBs.lt).trans hBs) (hc.below hW) h0
end Go.Proofs.Ythcgffnkpeiddaa
