/-
  The contract of the model's RiverAbove, and the law FnExactRiverAbove.
-/
import Derived.Test.YtdpghhmcibiplaaDoorRvAb
namespace Go.Proofs.YtdpghhmcibiplaaDoor
open Go.RowKit Go.Deep

set_option maxRecDepth 100000 in
set_option maxHeartbeats 2000000 in
theorem specAbove_no (a : Option Addr) (n cn : Nat) (rs : Nat → Rv.Rc) (p : Int) (w : World) (h : RcsAt a n rs w) (hno : ¬ (Rv.Right n rs ∧ 0 ≤ p ∧ p < (n : Int))) :
    Calls Tryd.prog 33 #[.slice a n cn, .int .i64 p] w fun e w' => (e = .returned (.slice (some ⟨w.heap.size, 0, none⟩) 0 0) ∧ InBlk w.heap.size 0 (fun _ => 0) w') ∧ Below w.heap.size w w' := by
  have HK : Hid (InBlk w.heap.size 0 (fun _ => 0) (w.alloc (.cells #[] 2))) := ⟨0, fun _ => undef, Nat.le_refl _, World.rowIs_alloc w #[] 2 _ (fun i hi => absurd hi (by simp)), fun j hj => absurd hj (Nat.not_lt_zero _)⟩
  have H := Lib.hid h
  have HN := Lib.hid hno
  clear h hno
  by_cases h4 : (400 : Int) < (n : Int)
  · go_enter Tryd.func33, Tryd.ntmps33
    go_wp2_with fail
    go_ret
    exact ⟨⟨rfl, HK.out⟩, (Below.refl _ _).alloc (Nat.le_refl _) _⟩
  go_enter Tryd.func33, Tryd.ntmps33
  go_wp2_with fail
  refine (specRight_any a n cn rs _ (H.out.below ((Below.refl _ _).alloc (Nat.le_refl _) _))).mono ?_
  rintro e w1 ⟨⟨b1, rfl, hb1⟩, hb⟩
  have HB : Hid (Below w.heap.size w w1) := ((Below.refl _ _).alloc (Nat.le_refl _) _).trans (hb.mono (by simp))
  have HB1 := Lib.hid hb1
  have HK1 : Hid (InBlk w.heap.size 0 (fun _ => 0) w1) := HK.out.block (hb.block _ HK.out.lt)
  clear hb hb1
  cases b1 with
  | false =>
    go_wp2_with fail
    go_ret
    exact ⟨⟨rfl, HK1.out⟩, HB.out⟩
  | true =>
    have hR : Rv.Right n rs := by have := HB1.out; simpa using this
    by_cases hp0 : p < 0
    · go_wp2_with fail
      go_ret
      exact ⟨⟨rfl, HK1.out⟩, HB.out⟩
    · have hp1 : (n : Int) ≤ p := by
        by_cases k : p < (n : Int)
        · exact absurd ⟨hR, by omega, k⟩ HN.out
        · omega
      clear hR
      go_wp2_with fail
      go_ret
      exact ⟨⟨rfl, HK1.out⟩, HB.out⟩

theorem specAbove_no' (a : Option Addr) (n cn : Nat) (rs : Nat → Rv.Rc) (p : Int) (w : World) (h : RcsAt a n rs w) (hno : ¬ (Rv.Right n rs ∧ 0 ≤ p ∧ p < (n : Int))) :
    Calls Tryd.prog 33 #[.slice a n cn, .int .i64 p] w fun e w' => (∃ g, e = .returned (.slice (some ⟨g, 0, none⟩) 0 0) ∧ w.heap.size ≤ g ∧ InBlk g 0 (fun _ => 0) w') ∧ Below w.heap.size w w' := by
  refine (specAbove_no a n cn rs p w h hno).mono ?_
  rintro e w' ⟨⟨rfl, hk⟩, hb⟩
  exact ⟨⟨_, rfl, Nat.le_refl _, hk⟩, hb⟩

set_option maxRecDepth 100000 in
set_option maxHeartbeats 4000000 in
theorem specAbove_go (lb n cn p : Nat) (rs : Nat → Rv.Rc) (w : World) (h : ∀ i, i < n → RcCells lb (i * 5) (rs i) w) (hr : Rv.Right n rs) (hp : p < n) :
    Calls Tryd.prog 33 #[.slice (some ⟨lb, 0, none⟩) n cn, .int .i64 p] w fun e w' => (∃ v, e = .returned v ∧ w'.ownsRow w.heap.size 2 1 v (Rv.above n rs p n).length (natVs (Rv.above n rs p n))) ∧ Below w.heap.size w w' := by
  obtain ⟨i1, hi1, hy0, hy1, hy2⟩ := info_parts info_i64
  have H := Lib.hid h
  have HR := Lib.hid hr
  have hn2 : n ≤ 40 := hr.1.2
  have hlb : lb < w.heap.size := (h 0 (by omega)).lt
  have h4 : ¬ (400 : Int) < (n : Int) := by omega
  have hz0 : ¬ (p : Int) < 0 := by omega
  have hz1 : ¬ (n : Int) ≤ (p : Int) := by omega
  have dz0 : decide ((p : Int) < 0) = false := by simp
  have dz1 : decide (n ≤ p) = false := by simp; omega
  have HST : Hid ((w.alloc (.cells #[] 2)).ownsRow w.heap.size 2 1 (.slice (some ⟨w.heap.size, 0, none⟩) 0 0) 0 []) := World.ownsRow_made w #[] 0 (Nat.le_refl _) (Nat.zero_le _) rfl
  clear h hr
  go_enter Tryd.func33, Tryd.ntmps33
  go_wp2_with fail
  refine (specRight_any _ n cn rs _ (RcsAt.below (Or.inr ⟨lb, rfl, H.out⟩) ((Below.refl _ _).alloc (Nat.le_refl _) _))).mono ?_
  rintro e w1 ⟨⟨b1, rfl, hb1⟩, hb⟩
  obtain rfl : b1 = true := hb1.2 HR.out
  have HB : Hid (Below w.heap.size w w1) := ((Below.refl _ _).alloc (Nat.le_refl _) _).trans (hb.mono (by simp))
  have HO1 := Lib.hid (own_far HST.out (fun k _ hk => hb.block k hk))
  clear hb hb1 HST
  go_wp2_with fail
  go_loopw [5, 6] (fun ov iv wr => ∃ (i : Nat), i ≤ n ∧ iv = .int .i64 i ∧ Hid (wr.ownsRow w.heap.size 2 1 ov (Rv.above n rs p i).length (natVs (Rv.above n rs p i))) ∧ Hid (Below w.heap.size w wr)) (fun _ iv _ => n - (intOf iv).toNat)
  case atStart => exact ⟨0, Nat.zero_le _, rfl, Lib.hid (by have : Rv.above n rs p 0 = [] := rfl; rw [this]; exact HO1.out), HB⟩
  case round =>
    obtain ⟨i, hi, rfl, hO, hB⟩ := hrel
    clear HO1
    obtain ⟨av, cv, rfl⟩ := own_shape hO.out
    by_cases hlt : i < n
    · have hltz : (i : Int) < (n : Int) := by omega
      have hlen : (Rv.above n rs p i).length ≤ i := by unfold Rv.above; exact Nat.le_trans (List.length_filter_le _ _) (by simp)
      have HC := Lib.hid (fun j hj => (H.out j hj).block (hB.out.block _ hlb))
      go_wp2_with fail
      go_loopw [7] (fun atv w2 => ∃ (a : Int), atv = .int .i64 a ∧ -1 ≤ a ∧ a < (n : Int) ∧ Hid (w2 = wr) ∧ Hid (Rv.To n rs p i ↔ Rv.To n rs p a)) (fun atv _ => n - (intOf atv).toNat - (if intOf atv = -1 then n else 0))
      case atStart => exact ⟨i, rfl, by omega, by omega, rfl, Iff.rfl⟩
      case round =>
        obtain ⟨a, rfl, ha0, ha1, hW, hT⟩ := hrel
        obtain rfl := hW.out
        clear hW
        by_cases e1 : a = -1
        · subst e1
          have e2 : ((-1 : Int) == (p : Int)) = false := by simp
          have hA : Hid (Rv.above n rs p (i + 1) = Rv.above n rs p i) := Lib.hid (by
            rw [Rv.above_succ, if_neg (fun k => absurd (hT.out.1 (Rv.toB_iff.1 k)) (Rv.not_to_sea (by omega))), List.append_nil])
          go_wp2_with fail
          go_roundw
          case rel => exact ⟨i + 1, by omega, by go_num, Lib.hid (by rw [hA.out]; exact hO.out), hB⟩
          case measure => simp [intOf]; omega
        · obtain ⟨A, rfl⟩ : ∃ A : Nat, a = (A : Int) := ⟨a.toNat, by omega⟩
          have e1' : ((A : Int) == -1) = false := by simp
          have e1n : ((A : Int) != -1) = true := by simp
          by_cases e2 : (A : Int) = (p : Int)
          · obtain rfl : A = p := by omega
            clear e2
            have hA : Hid (Rv.above n rs A (i + 1) = Rv.above n rs A i ++ [i]) := Lib.hid (by
              rw [Rv.above_succ, if_pos (Rv.toB_iff.2 (hT.out.2 Rv.To.here))])
            have zw : w.heap.size ≤ wr.heap.size := hB.out.size
            go_wp2_with (at_builtin; refine wpList_append_lies _ rfl _ _ 23 rfl w.heap.size 2 i1 (.int .i64 0) 1 8 Tryd.underlying23 hi1 hy0 hy1 hy2 rfl (by decide) _ _ _ rfl (hO.out.alloc _) ⟨wr.heap.size, 0, none⟩ 1 1 [.int .i64 (i : Int)] rfl rfl ?a1 ?a2 ?a3 ?a4 ?a5 ?a6 (wr.heap.size + 1) ?a7 ?_)
            try (case a1 => (intro j u hj; match j, hj with
              | 0, hj => (simp at hj; subst hj; simp [Addr.add])))
            try (case a2 => first | rfl | (intro u hu; simp at hu; subst hu; rfl))
            try (case a3 => omega)
            try (case a4 => (unfold maxLen; omega))
            try (case a5 => omega)
            try (case a6 => first | omega | (simp; omega))
            try (case a7 => simp)
            intro g cap W3 hown hgrow hat hlt3
            have HO3 : Hid (W3.ownsRow w.heap.size 2 1 (.slice (some ⟨g, 0, none⟩) ((Rv.above n rs A i).length + 1) cap) (Rv.above n rs A (i + 1)).length (natVs (Rv.above n rs A (i + 1)))) := Lib.hid (by
              rw [hA.out, natVs_app]; simpa using hown)
            have HB3 : Hid (Below w.heap.size w W3) := (hB.out.alloc hB.out.size _).grown hgrow (by simp; omega) (fun k hk => (hO.out.lt k hk).1)
            clear hown hgrow hat hlt3 hO hB hA
            go_wp2_with fail
            go_roundw
            case rel => exact ⟨i + 1, by omega, by go_num, HO3, HB3⟩
            case measure => simp [intOf]; omega
          · have e2' : ((A : Int) == (p : Int)) = false := by simp; omega
            have e2n : ((A : Int) != (p : Int)) = true := by simp; omega
            have hAn : A < n := by omega
            obtain ⟨c0, c1, c2, c3, c4⟩ := HC.out A hAn
            have hd := (HR.out.2 A hAn).2
            have HD := Lib.hid hd
            have HT2 : Hid (Rv.To n rs p i ↔ Rv.To n rs p (rs A).dn) := hT.out.trans (Rv.to_down hAn (by omega))
            have hb1 : -1 ≤ (rs A).dn := by rcases hd with k | k <;> omega
            have hb2 : (rs A).dn < (n : Int) := by rcases hd with k | k <;> omega
            clear c0 c1 c3 c4 hd hT e1 e2
            go_wp2_with fail
            go_roundw
            case rel => exact ⟨(rs A).dn, rfl, hb1, hb2, by first | exact rfl | exact (trivial : True), HT2⟩
            case measure =>
              simp only [intOf]
              rcases HD.out with k | k
              · rw [k]; simp; omega
              · have h1 : ¬ (rs A).dn = -1 := by omega
                have h2 : ¬ (A : Int) = -1 := by omega
                simp [h1, h2]; omega
    · obtain rfl : i = n := by omega
      go_wp2_with fail
      go_ret
      exact ⟨⟨_, rfl, hO.out⟩, hB.out⟩
end Go.Proofs.YtdpghhmcibiplaaDoor
