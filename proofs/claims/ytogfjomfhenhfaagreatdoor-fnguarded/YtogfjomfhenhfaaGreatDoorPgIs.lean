/-
  How many truths are handed in: the program's count and the model's.
-/
import Derived.Test.YtogfjomfhenhfaaGreatDoorPgI5
import Derived.Test.YtogfjomfhenhfaaGreatDoorPgS2
import Derived.Test.YtogfjomfhenhfaaGreatDoorPgIm
namespace Go.Proofs.YtogfjomfhenhfaaGreatDoor
open Go.RowKit Go.Deep

set_option maxRecDepth 100000 in
set_option maxHeartbeats 4000000 in
theorem implIns_any (p : Pg.Prog) (la : Option Addr) (lk : Nat) (fa : Option Addr) (fk : Nat) (wa : Option Addr) (wk : Nat) (w : World) (h : PgAt p la fa wa w) (hs : PgSmall p) :
    Calls Tryz.prog 73 #[pgV p la lk fa fk wa wk] w fun e w' => e = .returned (.int .i64 (Pg.ins p)) ∧ Below w.heap.size w w' := by
  obtain ⟨W, hW⟩ : ∃ W, W = w.alloc (.cells #[.slice la p.bn lk, .slice fa p.on fk, .slice wa p.nn wk] 27) := ⟨_, rfl⟩
  have S0 : SpB p la lk fa fk wa wk w W := by rw [hW]; exact ⟨rowN_alloc w _ _, nbel_alloc _ _⟩
  have H := Lib.hid h
  have HS := Lib.hid hs
  have hb1 : p.bn ≤ 1048576 := hs.1.1
  have HW := Lib.hid hW
  have HS0 := Lib.hid S0
  clear h hs hW S0
  go_enter Tryz.func73, Tryz.ntmps73
  go_wp2_with fail
  rw [← HW.out]
  refine (implPRight_any p la lk fa fk wa wk _ (H.out.below HS0.out.old) HS.out).mono ?_
  rintro e w1 ⟨rfl, hb⟩
  have S1 := Lib.hid (HS0.out.below hb)
  clear hb HS0
  by_cases k : Pg.Right p
  · rw [dB_tt k]
    have HE := Lib.hid (Pg.ins_yes k)
    clear k
    obtain ⟨⟨x0, x1, x2⟩, _⟩ := rowN3 S1.out.box
    go_wp2_with fail
    clear x0 x1 x2
    go_loopw [3, 12] (fun cv iv wr => ∃ (i : Nat), i ≤ p.bn ∧ cv = .int .i64 (Pg.insTo p.B i : Nat) ∧ iv = .int .i64 i ∧ Hid (Below w.heap.size w wr)) (fun _ iv _ => p.bn - (intOf iv).toNat)
    case atStart => exact ⟨0, Nat.zero_le _, rfl, rfl, S1.out.old⟩
    case round =>
      obtain ⟨i, hi, rfl, rfl, hB⟩ := hrel
      by_cases hlt : i < p.bn
      · have hltz : (i : Int) < (p.bn : Int) := by omega
        obtain ⟨b, eb, c0, c1, c2, c3⟩ := (H.out.l.below hB.out).at_ hlt
        subst eb
        have HB2 := Lib.hid (hB.out.alloc hB.out.size (.cells #[.int .i64 (p.B i).kind, .string (p.B i).name, .int .i64 (p.B i).a, .int .i64 (p.B i).b] 84))
        have hle := Pg.insTo_le p.B i
        by_cases q : (p.B i).kind = 1
        · have q' : ((p.B i).kind == 1) = true := by simp [q]
          have HI := Lib.hid (Pg.insTo_yes q)
          clear q
          go_wp2_with fail
          go_roundw
          case rel => exact ⟨i + 1, by omega, by rw [HI.out]; go_num, by go_num, HB2⟩
          case measure => simp [intOf]; omega
        · have q' : ((p.B i).kind == 1) = false := by simp [q]
          have HI := Lib.hid (Pg.insTo_no q)
          clear q
          go_wp2_with fail
          go_roundw
          case rel => exact ⟨i + 1, by omega, by rw [HI.out], by go_num, HB2⟩
          case measure => simp [intOf]; omega
      · obtain rfl : i = p.bn := by omega
        go_wp2_with fail
        go_ret
        exact ⟨by rw [HE.out]; rfl, hB.out⟩
  · rw [dB_ff k]
    have HE := Lib.hid (Pg.ins_no k)
    clear k
    go_wp2_with fail
    go_ret
    exact ⟨by rw [HE.out]; rfl, S1.out.old⟩
set_option maxRecDepth 100000 in
set_option maxHeartbeats 4000000 in
theorem specIns_any (p : Pg.Prog) (la : Option Addr) (lk : Nat) (fa : Option Addr) (fk : Nat) (wa : Option Addr) (wk : Nat) (w : World) (h : PgAt p la fa wa w) (hs : PgSmall p) :
    Calls Tryz.prog 17 #[pgV p la lk fa fk wa wk] w fun e w' => e = .returned (.int .i64 (Pg.ins p)) ∧ Below w.heap.size w w' := by
  obtain ⟨W, hW⟩ : ∃ W, W = w.alloc (.cells #[.slice la p.bn lk, .slice fa p.on fk, .slice wa p.nn wk] 27) := ⟨_, rfl⟩
  have S0 : SpB p la lk fa fk wa wk w W := by rw [hW]; exact ⟨rowN_alloc w _ _, nbel_alloc _ _⟩
  have H := Lib.hid h
  have HS := Lib.hid hs
  have hb1 : p.bn ≤ 1048576 := hs.1.1
  have HW := Lib.hid hW
  have HS0 := Lib.hid S0
  clear h hs hW S0
  go_enter Tryz.func17, Tryz.ntmps17
  go_wp2_with fail
  rw [← HW.out]
  refine (specPRight_any p la lk fa fk wa wk _ (H.out.below HS0.out.old) HS.out).mono ?_
  rintro e w1 ⟨rfl, hb⟩
  have S1 := Lib.hid (HS0.out.below hb)
  clear hb HS0
  by_cases k : Pg.Right p
  · rw [dB_tt k]
    have HE := Lib.hid (Pg.ins_yes k)
    clear k
    go_wp2_with fail
    go_loopw [3, 4] (fun cv iv wr => ∃ (i : Nat), i ≤ p.bn ∧ cv = .int .i64 (Pg.insTo p.B i : Nat) ∧ iv = .int .i64 i ∧ Hid (SpB p la lk fa fk wa wk w wr)) (fun _ iv _ => p.bn - (intOf iv).toNat)
    case atStart => exact ⟨0, Nat.zero_le _, rfl, rfl, S1⟩
    case round =>
      obtain ⟨i, hi, rfl, rfl, hS⟩ := hrel
      clear S1
      obtain ⟨⟨x0, x1, x2⟩, _⟩ := rowN3 hS.out.box
      by_cases hlt : i < p.bn
      · have hltz : (i : Int) < (p.bn : Int) := by omega
        obtain ⟨b, eb, c0, c1, c2, c3⟩ := (H.out.l.below hS.out.old).at_ hlt
        subst eb
        have hle := Pg.insTo_le p.B i
        by_cases q : (p.B i).kind = 1
        · have q' : ((p.B i).kind == 1) = true := by simp [q]
          have HI := Lib.hid (Pg.insTo_yes q)
          clear q
          go_wp2_with fail
          go_roundw
          case rel => exact ⟨i + 1, by omega, by rw [HI.out]; go_num, by go_num, hS⟩
          case measure => simp [intOf]; omega
        · have q' : ((p.B i).kind == 1) = false := by simp [q]
          have HI := Lib.hid (Pg.insTo_no q)
          clear q
          go_wp2_with fail
          go_roundw
          case rel => exact ⟨i + 1, by omega, by rw [HI.out], by go_num, hS⟩
          case measure => simp [intOf]; omega
      · obtain rfl : i = p.bn := by omega
        go_wp2_with fail
        go_ret
        exact ⟨by rw [HE.out]; rfl, hS.out.old⟩
  · rw [dB_ff k]
    have HE := Lib.hid (Pg.ins_no k)
    clear k
    go_wp2_with fail
    go_ret
    exact ⟨by rw [HE.out]; rfl, S1.out.old⟩
end Go.Proofs.YtogfjomfhenhfaaGreatDoor
