/-
  The program's tests of nets.
-/
import Derived.Test.YtkaokfmaecdkiaaGreatDoorNtMath
namespace Go.Proofs.YtkaokfmaecdkiaaGreatDoor
open Go.RowKit Go.Deep

theorem nbool_of (P : Prop) : ∃ b : Bool, b = true ↔ P := by
  by_cases h : P
  · exact ⟨true, by simp [h]⟩
  · exact ⟨false, by simp [h]⟩
set_option maxHeartbeats 400000 in
theorem nwithin_any (x m : Int) (b : Bool) (hb : b = true ↔ (0 ≤ x ∧ x ≤ m)) (w : World) :
    Calls Tryz.prog 102 #[.int .i64 x, .int .i64 m] w fun e w' => e = .returned (.bool b) ∧ w' = w := by
  by_cases h1 : 0 ≤ x
  · by_cases h2 : x ≤ m
    · obtain rfl : b = true := hb.2 ⟨h1, h2⟩
      go_enter Tryz.func102, Tryz.ntmps102
      go_wp2_with fail
      go_ret
      exact ⟨rfl, rfl⟩
    · obtain rfl : b = false := by
        cases b with
        | false => rfl
        | true => exact absurd (hb.1 rfl).2 h2
      go_enter Tryz.func102, Tryz.ntmps102
      go_wp2_with fail
      go_ret
      exact ⟨rfl, rfl⟩
  · obtain rfl : b = false := by
      cases b with
      | false => rfl
      | true => exact absurd (hb.1 rfl).1 h1
    go_enter Tryz.func102, Tryz.ntmps102
    go_wp2_with fail
    go_ret
    exact ⟨rfl, rfl⟩
set_option maxHeartbeats 400000 in
theorem about_any (x m : Int) (b : Bool) (hm : 0 ≤ m ∧ m ≤ 1000000) (hb : b = true ↔ (-m ≤ x ∧ x ≤ m)) (w : World) :
    Calls Tryz.prog 103 #[.int .i64 x, .int .i64 m] w fun e w' => e = .returned (.bool b) ∧ w' = w := by
  obtain ⟨m0, m1⟩ := hm
  by_cases h1 : -m ≤ x
  · by_cases h2 : x ≤ m
    · obtain rfl : b = true := hb.2 ⟨h1, h2⟩
      go_enter Tryz.func103, Tryz.ntmps103
      go_wp2_with fail
      go_ret
      exact ⟨rfl, rfl⟩
    · obtain rfl : b = false := by
        cases b with
        | false => rfl
        | true => exact absurd (hb.1 rfl).2 h2
      go_enter Tryz.func103, Tryz.ntmps103
      go_wp2_with fail
      go_ret
      exact ⟨rfl, rfl⟩
  · obtain rfl : b = false := by
      cases b with
      | false => rfl
      | true => exact absurd (hb.1 rfl).1 h1
    go_enter Tryz.func103, Tryz.ntmps103
    go_wp2_with fail
    go_ret
    exact ⟨rfl, rfl⟩
set_option maxRecDepth 100000 in
set_option maxHeartbeats 4000000 in
theorem links_any (n : Nt.Net) (la : Option Addr) (lk : Nat) (fa : Option Addr) (fk : Nat) (wa : Option Addr) (wk : Nat) (w : World) (h : NtAt n la fa wa w) (h1 : 1 ≤ n.nodes) (h2 : n.nodes ≤ 12) :
    Calls Tryz.prog 82 #[ntV n la lk fa fk wa wk] w fun e w' => BoolEnd (n.ln ≤ 40 ∧ ∀ i, i < n.ln → Nt.linkOk n i) e ∧ Below w.heap.size w w' := by
  have H := Lib.hid (NtS.new 27 (lk := lk) (fk := fk) (wk := wk) h)
  clear h
  by_cases h40 : n.ln ≤ 40
  · have hz : ¬ (40 : Int) < (n.ln : Int) := by omega
    go_enter Tryz.func82, Tryz.ntmps82
    go_wp2_with fail
    go_loopw [12] (fun iv wr => ∃ (i : Nat), i ≤ n.ln ∧ iv = .int .i64 i ∧ Hid (NtS 27 n la lk fa fk wa wk w wr) ∧ Hid (∀ j, j < i → Nt.linkOk n j)) (fun iv _ => n.ln - (intOf iv).toNat)
    case atStart => exact ⟨0, Nat.zero_le _, rfl, H, fun j hj => absurd hj (Nat.not_lt_zero _)⟩
    case round =>
      obtain ⟨i, hi, rfl, hS, hP⟩ := hrel
      clear H
      by_cases hlt : i < n.ln
      · have hltz : (i : Int) < (n.ln : Int) := by omega
        obtain ⟨b, e, c0, c1, c2⟩ := hS.out.at_.l.at3 hlt
        subst e
        obtain ⟨⟨r0, _, _, _⟩, _⟩ := rowN4 hS.out.row
        have zb : b < wr.heap.size := World.block_lt_of_cell? _ _ c0
        have zw : w.heap.size < wr.heap.size := hS.out.row.lt
        obtain ⟨b1, hb1⟩ := nbool_of (0 ≤ n.L (i * 3) ∧ n.L (i * 3) ≤ n.nodes - 1)
        obtain ⟨b2, hb2⟩ := nbool_of (0 ≤ n.L (i * 3 + 1) ∧ n.L (i * 3 + 1) ≤ n.nodes - 1)
        have K1 := Lib.hid hb1
        have K2 := Lib.hid hb2
        clear hb1 hb2
        go_wp2_with fail
        refine (nwithin_any _ _ b1 K1.out _).mono ?_
        rintro e w1 ⟨rfl, rfl⟩
        cases b1 with
        | false =>
          go_wp2_with fail
          go_ret
          exact ⟨BoolEnd.ff (fun k => by have := K1.out.2 (by have := (k.2 i hlt).1; omega); cases this), hS.out.old.alloc hS.out.old.size _⟩
        | true =>
          go_wp2_with fail
          refine (nwithin_any _ _ b2 K2.out _).mono ?_
          rintro e w1 ⟨rfl, rfl⟩
          cases b2 with
          | false =>
            go_wp2_with fail
            go_ret
            exact ⟨BoolEnd.ff (fun k => by have := K2.out.2 (by have := (k.2 i hlt).2.1; omega); cases this), hS.out.old.alloc hS.out.old.size _⟩
          | true =>
            by_cases h3 : n.L (i * 3) = n.L (i * 3 + 1)
            · go_wp2_with fail
              go_ret
              exact ⟨BoolEnd.ff (fun k => (k.2 i hlt).2.2.1 h3), hS.out.old.alloc hS.out.old.size _⟩
            · have h3' : (n.L (i * 3) == n.L (i * 3 + 1)) = false := by simp [h3]
              have H3 := Lib.hid h3
              clear h3
              by_cases h4 : n.L (i * 3 + 2) < 1
              · go_wp2_with fail
                go_ret
                exact ⟨BoolEnd.ff (fun k => by have := (k.2 i hlt).2.2.2.1; omega), hS.out.old.alloc hS.out.old.size _⟩
              · by_cases h5 : 1000 < n.L (i * 3 + 2)
                · go_wp2_with fail
                  go_ret
                  exact ⟨BoolEnd.ff (fun k => by have := (k.2 i hlt).2.2.2.2; omega), hS.out.old.alloc hS.out.old.size _⟩
                · go_wp2_with fail
                  go_roundw
                  case rel =>
                    refine ⟨i + 1, by omega, by go_num, hS.out.alloc _, fun j hj => ?_⟩
                    by_cases ej : j = i
                    · subst ej
                      have k1 := K1.out.1 (by trivial)
                      have k2 := K2.out.1 (by trivial)
                      exact ⟨⟨k1.1, by omega⟩, ⟨k2.1, by omega⟩, H3.out, by omega, by omega⟩
                    · exact hP.out j (by omega)
                  case measure => simp [intOf]; omega
      · obtain rfl : i = n.ln := by omega
        go_wp2_with fail
        go_ret
        exact ⟨BoolEnd.tt ⟨h40, hP.out⟩, hS.out.old⟩
  · have hz : (40 : Int) < (n.ln : Int) := by omega
    go_enter Tryz.func82, Tryz.ntmps82
    go_wp2_with fail
    go_ret
    exact ⟨BoolEnd.ff (fun k => h40 k.1), H.out.old⟩
set_option maxRecDepth 100000 in
set_option maxHeartbeats 4000000 in
theorem fixed_any (n : Nt.Net) (la : Option Addr) (lk : Nat) (fa : Option Addr) (fk : Nat) (wa : Option Addr) (wk : Nat) (w : World) (h : NtAt n la fa wa w) (h3 : n.fn ≤ 1048576) :
    Calls Tryz.prog 83 #[ntV n la lk fa fk wa wk] w fun e w' => BoolEnd (∀ i, i < n.fn → Nt.fixOk n i) e ∧ Below w.heap.size w w' := by
  have H := Lib.hid (NtS.new 27 (lk := lk) (fk := fk) (wk := wk) h)
  clear h
  go_enter Tryz.func83, Tryz.ntmps83
  go_wp2_with fail
  go_loopw [3, 9] (fun av iv wr => ∃ (i : Nat), i ≤ n.fn ∧ av = .int .i64 (Nt.ahead n i) ∧ iv = .int .i64 i ∧ Hid (NtS 27 n la lk fa fk wa wk w wr) ∧ Hid (∀ j, j < i → Nt.fixOk n j)) (fun _ iv _ => n.fn - (intOf iv).toNat)
  case atStart => exact ⟨0, Nat.zero_le _, rfl, rfl, H, fun j hj => absurd hj (Nat.not_lt_zero _)⟩
  case round =>
    obtain ⟨i, hi, rfl, rfl, hS, hP⟩ := hrel
    clear H
    by_cases hlt : i < n.fn
    · have hltz : (i : Int) < (n.fn : Int) := by omega
      obtain ⟨b, e, c0, c1⟩ := hS.out.at_.f.at2 hlt
      subst e
      obtain ⟨⟨r0, _, _, _⟩, _⟩ := rowN4 hS.out.row
      have zb : b < wr.heap.size := World.block_lt_of_cell? _ _ c0
      have zw : w.heap.size < wr.heap.size := hS.out.row.lt
      have hA := Lib.hid (Nt.fix_ahead n i hP.out)
      by_cases h4 : n.F (i * 2) ≤ Nt.ahead n i
      · go_wp2_with fail
        go_ret
        exact ⟨BoolEnd.ff (fun k => by have := (hA.out.1 (k i hlt)).1; omega), hS.out.old.alloc hS.out.old.size _⟩
      · by_cases h5 : n.nodes ≤ n.F (i * 2)
        · go_wp2_with fail
          go_ret
          exact ⟨BoolEnd.ff (fun k => by have := (hA.out.1 (k i hlt)).2.1; omega), hS.out.old.alloc hS.out.old.size _⟩
        · obtain ⟨b1, hb1⟩ := nbool_of (-100000 ≤ n.F (i * 2 + 1) ∧ n.F (i * 2 + 1) ≤ 100000)
          have K1 := Lib.hid hb1
          clear hb1
          go_wp2_with fail
          refine (about_any _ _ b1 ⟨by omega, by omega⟩ K1.out _).mono ?_
          rintro e w1 ⟨rfl, rfl⟩
          cases b1 with
          | false =>
            go_wp2_with fail
            go_ret
            exact ⟨BoolEnd.ff (fun k => by have := K1.out.2 (hA.out.1 (k i hlt)).2.2; cases this), hS.out.old.alloc hS.out.old.size _⟩
          | true =>
            go_wp2_with fail
            go_roundw
            case rel =>
              refine ⟨i + 1, by omega, by rw [Nt.ahead_succ], by go_num, hS.out.alloc _, fun j hj => ?_⟩
              by_cases ej : j = i
              · subst ej
                exact hA.out.2 ⟨by omega, by omega, K1.out.1 (by trivial)⟩
              · exact hP.out j (by omega)
            case measure => simp [intOf]; omega
    · obtain rfl : i = n.fn := by omega
      go_wp2_with fail
      go_ret
      exact ⟨BoolEnd.tt hP.out, hS.out.old⟩
set_option maxRecDepth 100000 in
set_option maxHeartbeats 4000000 in
theorem wants_any (n : Nt.Net) (la : Option Addr) (lk : Nat) (fa : Option Addr) (fk : Nat) (wa : Option Addr) (wk : Nat) (w : World) (h : NtAt n la fa wa w) (h1 : 1 ≤ n.nodes) (h2 : n.nodes ≤ 12) :
    Calls Tryz.prog 84 #[ntV n la lk fa fk wa wk] w fun e w' => BoolEnd ((n.wn : Int) = n.nodes ∧ ∀ i, i < n.wn → Nt.wantOk n i) e ∧ Below w.heap.size w w' := by
  have H := Lib.hid (NtS.new 27 (lk := lk) (fk := fk) (wk := wk) h)
  clear h
  by_cases hq : (n.wn : Int) = n.nodes
  · have hz : ((n.wn : Int) != n.nodes) = false := by simp [hq]
    go_enter Tryz.func84, Tryz.ntmps84
    go_wp2_with fail
    go_loopw [14] (fun iv wr => ∃ (i : Nat), i ≤ n.wn ∧ iv = .int .i64 i ∧ Hid (NtS 27 n la lk fa fk wa wk w wr) ∧ Hid (∀ j, j < i → Nt.wantOk n j)) (fun iv _ => n.wn - (intOf iv).toNat)
    case atStart => exact ⟨0, Nat.zero_le _, rfl, H, fun j hj => absurd hj (Nat.not_lt_zero _)⟩
    case round =>
      obtain ⟨i, hi, rfl, hS, hP⟩ := hrel
      clear H
      by_cases hlt : i < n.wn
      · have hltz : (i : Int) < (n.wn : Int) := by omega
        obtain ⟨b, e, c0⟩ := hS.out.at_.w.at1 hlt
        subst e
        obtain ⟨b1, hb1⟩ := nbool_of (-1000000 ≤ n.W i ∧ n.W i ≤ 1000000)
        have K1 := Lib.hid hb1
        clear hb1
        go_wp2_with fail
        refine (about_any _ _ b1 ⟨by omega, by omega⟩ K1.out _).mono ?_
        rintro e w1 ⟨rfl, rfl⟩
        cases b1 with
        | false =>
          go_wp2_with fail
          go_ret
          exact ⟨BoolEnd.ff (fun k => by have := K1.out.2 (k.2 i hlt); cases this), hS.out.old⟩
        | true =>
          go_wp2_with fail
          go_roundw
          case rel =>
            refine ⟨i + 1, by omega, by go_num, hS, fun j hj => ?_⟩
            by_cases ej : j = i
            · subst ej; exact K1.out.1 (by trivial)
            · exact hP.out j (by omega)
          case measure => simp [intOf]; omega
      · obtain rfl : i = n.wn := by omega
        go_wp2_with fail
        go_ret
        exact ⟨BoolEnd.tt ⟨hq, hP.out⟩, hS.out.old⟩
  · have hz : ((n.wn : Int) != n.nodes) = true := by simp [hq]
    go_enter Tryz.func84, Tryz.ntmps84
    go_wp2_with fail
    go_ret
    exact ⟨BoolEnd.ff (fun k => hq k.1), H.out.old⟩
set_option maxRecDepth 100000 in
set_option maxHeartbeats 4000000 in
theorem implNet_any (n : Nt.Net) (la : Option Addr) (lk : Nat) (fa : Option Addr) (fk : Nat) (wa : Option Addr) (wk : Nat) (w : World) (h : NtAt n la fa wa w) (hs : NtSmall n) :
    Calls Tryz.prog 61 #[ntV n la lk fa fk wa wk] w fun e w' => BoolEnd (Nt.Right n) e ∧ Below w.heap.size w w' := by
  have H := Lib.hid (NtS.new 27 (lk := lk) (fk := fk) (wk := wk) h)
  have HS := Lib.hid hs
  clear h hs
  by_cases h1 : 1 ≤ n.nodes
  · by_cases h2 : n.nodes ≤ 12
    · obtain ⟨W, hW⟩ : ∃ W, W = w.alloc (.cells #[.int .i64 n.nodes, .slice la n.ln lk, .slice fa n.fn fk, .slice wa n.wn wk] 27) := ⟨_, rfl⟩
      have HW := Lib.hid hW
      rw [← hW] at H
      clear hW
      go_enter Tryz.func61, Tryz.ntmps61
      go_wp2_with fail
      rw [← HW.out]
      refine (links_any n la lk fa fk wa wk _ H.out.at_ h1 h2).mono ?_
      rintro e w1 ⟨⟨b1, rfl, hb1⟩, hb⟩
      have S1 := Lib.hid (H.out.below hb)
      have K1 := Lib.hid hb1
      clear hb hb1 H
      obtain ⟨⟨r0, r1, r2, r3⟩, _⟩ := rowN4 S1.out.row
      cases b1 with
      | false =>
        go_wp2_with fail
        go_ret
        exact ⟨BoolEnd.ff (fun k => by have := K1.out.2 ⟨k.ln, k.l⟩; cases this), S1.out.old⟩
      | true =>
        go_wp2_with fail
        refine (fixed_any n la lk fa fk wa wk _ S1.out.at_ HS.out.2.1).mono ?_
        rintro e w2 ⟨⟨b2, rfl, hb2⟩, hb⟩
        have S2 := Lib.hid (S1.out.below hb)
        have K2 := Lib.hid hb2
        clear hb hb2 S1 r0 r1 r2 r3
        obtain ⟨⟨r0, r1, r2, r3⟩, _⟩ := rowN4 S2.out.row
        cases b2 with
        | false =>
          go_wp2_with fail
          go_ret
          exact ⟨BoolEnd.ff (fun k => by have := K2.out.2 k.f; cases this), S2.out.old⟩
        | true =>
          go_wp2_with fail
          refine (wants_any n la lk fa fk wa wk _ S2.out.at_ h1 h2).mono ?_
          rintro e w3 ⟨⟨b3, rfl, hb3⟩, hb⟩
          have S3 := Lib.hid (S2.out.below hb)
          have K3 := Lib.hid hb3
          clear hb hb3 S2 r0 r1 r2 r3
          cases b3 with
          | false =>
            go_wp2_with fail
            go_ret
            exact ⟨BoolEnd.ff (fun k => by have := K3.out.2 ⟨k.wn, k.w⟩; cases this), S3.out.old⟩
          | true =>
            go_wp2_with fail
            go_ret
            exact ⟨BoolEnd.tt ⟨h1, h2, (K1.out.1 (by trivial)).1, (K3.out.1 (by trivial)).1, (K1.out.1 (by trivial)).2, K2.out.1 (by trivial), (K3.out.1 (by trivial)).2⟩, S3.out.old⟩
    · go_enter Tryz.func61, Tryz.ntmps61
      go_wp2_with fail
      go_ret
      exact ⟨BoolEnd.ff (fun k => by have := k.n2; omega), H.out.old⟩
  · go_enter Tryz.func61, Tryz.ntmps61
    go_wp2_with fail
    go_ret
    exact ⟨BoolEnd.ff (fun k => by have := k.n1; omega), H.out.old⟩
end Go.Proofs.YtkaokfmaecdkiaaGreatDoor
