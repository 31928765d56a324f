/-
  A cycle's end; what is told of it: the program's.
-/
import Derived.Test.YtogfjomfhenhfaaGreatDoorCyI4
import Derived.Test.YtogfjomfhenhfaaGreatDoorGdA
import Derived.Test.YtogfjomfhenhfaaGreatDoorAsC
namespace Go.Proofs.YtogfjomfhenhfaaGreatDoor
open Go.RowKit Go.Deep

theorem Only.below2 {g : Nat} {w w' w2 : World} (h : Only g w' w2) (hb : Below w.heap.size w w') : Only g w w2 :=
  ⟨h.os.trans hb.os, h.tape.trans hb.tape, h.output.trans hb.output, Nat.le_trans hb.size h.size, fun k hk hne => (h.block k (Nat.lt_of_lt_of_le hk hb.size) hne).trans (hb.block k hk)⟩
theorem clear_all (g on : Nat) (f : Nat → Int) (ty : TypeId) (W : World) (h : IsBlk 2 g on f W) : ∃ W', (Builtin.clear_ #[24] ty #[.slice (some ⟨g, 0, none⟩) on on]).run Tryz.prog W = .ok (.tuple #[]) W' ∧ IsBlk 2 g on (fun _ => 0) W' ∧ Only g W W' := by
  by_cases h0 : 0 < on
  · exact clear_any g on f ty W h h0
  · obtain rfl : on = 0 := by omega
    exact ⟨W, by simp [Builtin.clear_, run_underlying Tryz.underlying24], h.congr (fun j hj => absurd hj (by omega)), Only.refl _ _⟩
set_option maxRecDepth 100000 in
set_option maxHeartbeats 4000000 in
theorem endCycle_any (a : Option Addr) (n k : Nat) (b : Option Addr) (m l : Nat) (fl : Bool) (g on : Nat) (f : Nat → Int) (W : World) (h : IsBlk 2 g on f W) :
    Calls Tryz.prog 77 #[.agg #[.slice a n k, .slice b m l, .bool fl], .slice (some ⟨g, 0, none⟩) on on] W fun e w' => e = .returned (.agg #[.slice a n k, .slice b m l, .bool fl, .slice (some ⟨g, 0, none⟩) on on, .int .i64 0]) ∧ IsBlk 2 g on (fun j => if fl = true then 0 else f j) w' ∧ Only g W w' := by
  obtain ⟨W1, hW1⟩ : ∃ W1, W1 = (W.alloc (.cells #[.slice a n k, .slice b m l, .bool fl] 33)).alloc (.cells #[.slice none 0 0, .slice none 0 0, .bool false, .slice none 0 0, .int .i64 0] 38) := ⟨_, rfl⟩
  have R1 : Hid (W1.rowIs W.heap.size 33 3 (rowN [.slice a n k, .slice b m l, .bool fl])) := by show World.rowIs _ _ _ _ _; rw [hW1]; exact nrow_below (rowN_alloc W _ _) (nbel_alloc _ _)
  have Q1 : Hid (W1.rowIs (W.heap.size + 1) 38 5 (rowN [.slice none 0 0, .slice none 0 0, .bool false, .slice none 0 0, .int .i64 0])) := by show World.rowIs _ _ _ _ _; rw [hW1]; exact rowN_alloc' (by simp) [.slice none 0 0, .slice none 0 0, .bool false, .slice none 0 0, .int .i64 0] _
  have BW : Hid (Below W.heap.size W W1) := by show Below _ _ _; rw [hW1]; exact (nbel_alloc _ _).alloc (by simp) _
  have H := Lib.hid (h.below BW.out)
  have HGL : Hid (g < W.heap.size) := h.lt
  have h0 := h
  have HW := Lib.hid hW1
  clear h hW1
  cases fl with
  | false =>
    have HF : Hid (IsBlk 2 g on (fun j => if false = true then 0 else f j) W) := h0.congr (fun j _ => by simp)
    clear HW R1 Q1 BW H h0
    go_enter Tryz.func77, Tryz.ntmps77
    go_wp2_with fail
    exact bodyPost_ret (v := .agg #[.slice a n k, .slice b m l, .bool false, .slice (some ⟨g, 0, none⟩) on on, .int .i64 0]) (by simp [results, Tryz.results77, go_sem]) rfl ⟨rfl, (HF.out.below (nbel_alloc _ _)).below (nbel_alloc _ _), Only.of_below ((nbel_alloc _ _).alloc (by simp) _)⟩
  | true =>
    clear h0
    obtain ⟨W2, hcl, hk, ho⟩ := clear_all g on f 0 W1 H.out
    have HF : Hid (IsBlk 2 g on (fun j => if true = true then 0 else f j) W2) := hk.congr (fun j _ => by simp)
    have HO := Lib.hid (Only.below2 ho BW.out)
    have R2 := R1.out.of_block (ho.block _ R1.out.lt (by have := HGL.out; omega))
    have Q2 := Q1.out.of_block (ho.block _ Q1.out.lt (by have := HGL.out; omega))
    have QP := Lib.hid (cyput5 Q2 rfl (.slice a n k) (.slice b m l) (.bool true) (.slice (some ⟨g, 0, none⟩) on on) (.int .i64 0))
    have KB := Lib.hid (fun (q : Nat) (hq : q ≠ W.heap.size + 1) => cyblk5 (W := W2) hq (.slice a n k) (.slice b m l) (.bool true) (.slice (some ⟨g, 0, none⟩) on on) (.int .i64 0))
    obtain ⟨⟨y0, y1, y2⟩, _⟩ := rowN3 R2
    obtain ⟨⟨z0, z1, z2, z3, z4⟩, f0, f1, f2, f3, f4⟩ := rowN5 Q2
    have hql := Q2.lt
    rw [HW.out] at hcl
    clear hk ho R2 Q2 HW R1 Q1 BW H
    go_enter Tryz.func77, Tryz.ntmps77
    go_wp2_with fail
    have hgl := HGL.out
    exact bodyPost_ret (v := .agg #[.slice a n k, .slice b m l, .bool true, .slice (some ⟨g, 0, none⟩) on on, .int .i64 0]) (by
      obtain ⟨⟨x0, x1, x2, x3, x4⟩, _⟩ := rowN5 QP.out
      simp only [results, Tryz.results77]
      simp [go_sem, x0, x1, x2, x3, x4]) rfl ⟨rfl, HF.out.block (KB.out g (by omega)), HO.out.os, HO.out.tape, HO.out.output, by simpa using HO.out.size, fun j hj hne => (KB.out j (by omega)).trans (HO.out.block j hj hne)⟩
end Go.Proofs.YtogfjomfhenhfaaGreatDoor
