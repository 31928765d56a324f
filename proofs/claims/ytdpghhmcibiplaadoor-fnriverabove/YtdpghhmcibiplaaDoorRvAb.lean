/-
  The contracts of RiverAbove: the program's and the model's.
-/
import Derived.Test.YtdpghhmcibiplaaDoorRvS1
import Derived.Test.YtdpghhmcibiplaaDoorRvOwn
namespace Go.Proofs.YtdpghhmcibiplaaDoor
open Go.RowKit Go.Deep

/-- What a list of places is, as cells. -/
def natVs (l : List Nat) : List Value := l.map (fun (k : Nat) => Value.int .i64 (k : Int))
theorem natVs_app (l : List Nat) (k : Nat) : natVs (l ++ [k]) = natVs l ++ [.int .i64 (k : Int)] := by simp [natVs]

set_option maxRecDepth 100000 in
set_option maxHeartbeats 2000000 in
theorem flowsTo_any (lb n cn i p : Nat) (rs : Nat → Rv.Rc) (w : World) (h : ∀ i, i < n → RcCells lb (i * 5) (rs i) w) (hr : Rv.Right n rs) (hi : i < n) (hp : p < n) :
    Calls Tryd.prog 69 #[.slice (some ⟨lb, 0, none⟩) n cn, .int .i64 i, .int .i64 p] w fun e w' => BoolEnd (Rv.To n rs p i) e ∧ w' = w := by
  have H := Lib.hid h
  have HR := Lib.hid hr
  have hn2 : n ≤ 40 := hr.1.2
  clear h hr
  go_enter Tryd.func69, Tryd.ntmps69
  go_wp2_with fail
  go_loopw [1] (fun av wr => ∃ (a : Int), av = .int .i64 a ∧ -1 ≤ a ∧ a < (n : Int) ∧ Hid (wr = w) ∧ Hid (Rv.To n rs p i ↔ Rv.To n rs p a)) (fun av _ => n - (intOf av).toNat - (if intOf av = -1 then n else 0))
  case atStart => exact ⟨i, rfl, by omega, by omega, rfl, Iff.rfl⟩
  case round =>
    obtain ⟨a, rfl, ha0, ha1, hW, hT⟩ := hrel
    obtain rfl := hW.out
    clear hW
    by_cases e1 : a = -1
    · subst e1
      have e2 : ((-1 : Int) == (p : Int)) = false := by simp
      go_wp2_with fail
      go_ret
      exact ⟨BoolEnd.ff (P := Rv.To n rs p i) (fun h => absurd (hT.out.1 h) (Rv.not_to_sea (by omega))), rfl⟩
    · obtain ⟨A, rfl⟩ : ∃ A : Nat, a = (A : Int) := ⟨a.toNat, by omega⟩
      have e1' : ((A : Int) == -1) = false := by simp
      by_cases e2 : (A : Int) = (p : Int)
      · obtain rfl : A = p := by omega
        clear e2
        have e1n : ((A : Int) != -1) = true := by simp
        go_wp2_with fail
        go_ret
        exact ⟨BoolEnd.tt (P := Rv.To n rs A i) (hT.out.2 Rv.To.here), rfl⟩
      · have e2' : ((A : Int) == (p : Int)) = false := by simp; omega
        have e1n : ((A : Int) != -1) = true := by simp
        have e2n : ((A : Int) != (p : Int)) = true := by simp; omega
        have hAn : A < n := by omega
        obtain ⟨c0, c1, c2, c3, c4⟩ := H.out A hAn
        have hd := (HR.out.2 A hAn).2
        have HD := Lib.hid hd
        have HT2 : Hid (Rv.To n rs p i ↔ Rv.To n rs p (rs A).dn) := hT.out.trans (Rv.to_down hAn (by omega))
        have hb1 : -1 ≤ (rs A).dn := by rcases hd with k | k <;> omega
        have hb2 : (rs A).dn < (n : Int) := by rcases hd with k | k <;> omega
        clear c0 c1 c3 c4 hd hT e1 e2
        go_wp2_with fail
        go_roundw
        case rel => exact ⟨(rs A).dn, rfl, hb1, hb2, by first | exact rfl | exact (trivial : True), HT2⟩
        case measure =>
          simp only [intOf]
          rcases HD.out with k | k
          · rw [k]; simp; omega
          · have h1 : ¬ (rs A).dn = -1 := by omega
            have h2 : ¬ (A : Int) = -1 := by omega
            simp [h1, h2]; omega

theorem info_i64' : (Tryd.prog.info? 2).map (fun i => (i.zero, i.size, i.bytes)) = some (some (.int .i64 0), 1, 8) := info_i64
set_option maxRecDepth 100000 in
set_option maxHeartbeats 2000000 in
theorem implAbove_no (a : Option Addr) (n cn : Nat) (rs : Nat → Rv.Rc) (p : Int) (w : World) (h : RcsAt a n rs w) (hno : ¬ (Rv.Right n rs ∧ 0 ≤ p ∧ p < (n : Int))) :
    Calls Tryd.prog 31 #[.slice a n cn, .int .i64 p] w fun e w' => e = .returned (.slice none 0 0) ∧ Below w.heap.size w w' := by
  have H := Lib.hid h
  have HN := Lib.hid hno
  clear h hno
  go_enter Tryd.func31, Tryd.ntmps31
  go_wp2_with fail
  refine (implRight_any a n cn rs _ H.out).mono ?_
  rintro e w1 ⟨⟨b1, rfl, hb1⟩, hb⟩
  have HB := Lib.hid hb
  have HB1 := Lib.hid hb1
  clear hb hb1
  cases b1 with
  | false =>
    go_wp2_with fail
    go_ret
    exact ⟨rfl, HB.out⟩
  | true =>
    have hR : Rv.Right n rs := by have := HB1.out; simpa using this
    by_cases hp0 : p < 0
    · go_wp2_with fail
      go_ret
      exact ⟨rfl, HB.out⟩
    · have hp1 : (n : Int) ≤ p := by
        by_cases k : p < (n : Int)
        · exact absurd ⟨hR, by omega, k⟩ HN.out
        · omega
      clear hR
      go_wp2_with fail
      go_ret
      exact ⟨rfl, HB.out⟩

set_option maxRecDepth 100000 in
set_option maxHeartbeats 4000000 in
theorem implAbove_go (lb n cn p : Nat) (rs : Nat → Rv.Rc) (w : World) (h : ∀ i, i < n → RcCells lb (i * 5) (rs i) w) (hr : Rv.Right n rs) (hp : p < n) :
    Calls Tryd.prog 31 #[.slice (some ⟨lb, 0, none⟩) n cn, .int .i64 p] w fun e w' => (∃ v, e = .returned v ∧ w'.ownsRow w.heap.size 2 1 v (Rv.above n rs p n).length (natVs (Rv.above n rs p n))) ∧ Below w.heap.size w w' := by
  obtain ⟨i1, hi1, hy0, hy1, hy2⟩ := info_parts info_i64
  have H := Lib.hid h
  have HR := Lib.hid hr
  have hn2 : n ≤ 40 := hr.1.2
  have hlb : lb < w.heap.size := (h 0 (by omega)).lt
  have hz0 : ¬ (p : Int) < 0 := by omega
  have hz1 : ¬ (n : Int) ≤ (p : Int) := by omega
  have dz0 : decide ((p : Int) < 0) = false := by simp
  have dz1 : decide (n ≤ p) = false := by simp; omega
  clear h hr
  go_enter Tryd.func31, Tryd.ntmps31
  go_wp2_with fail
  refine (implRight_any _ n cn rs _ (Or.inr ⟨lb, rfl, H.out⟩)).mono ?_
  rintro e w1 ⟨⟨b1, rfl, hb1⟩, hb⟩
  obtain rfl : b1 = true := hb1.2 HR.out
  have HB := Lib.hid hb
  clear hb hb1
  go_wp2_with fail
  go_loopw [5, 22] (fun ov iv wr => ∃ (i : Nat), i ≤ p + 1 ∧ iv = .int .i64 i ∧ Hid (wr.ownsRow w.heap.size 2 1 ov (Rv.above n rs p i).length (natVs (Rv.above n rs p i))) ∧ Hid (Below w.heap.size w wr)) (fun _ iv _ => p + 1 - (intOf iv).toNat)
  case atStart => exact ⟨0, Nat.zero_le _, rfl, Lib.hid (by have : Rv.above n rs p 0 = [] := rfl; rw [this]; exact World.ownsRow_nil _ _ _ _), HB⟩
  case round =>
    obtain ⟨i, hi, rfl, hO, hB⟩ := hrel
    obtain ⟨av, cv, rfl⟩ := own_shape hO.out
    by_cases hlt : i < p + 1
    · have hltz : (i : Int) < (p : Int) + 1 := by omega
      have hlen : (Rv.above n rs p i).length ≤ i := by unfold Rv.above; exact Nat.le_trans (List.length_filter_le _ _) (by simp)
      go_wp2_with fail
      refine (flowsTo_any lb n cn i p rs _ (fun j hj => (H.out j hj).block (hB.out.block _ hlb)) HR.out (by omega) hp).mono ?_
      rintro e w2 ⟨⟨b2, rfl, hb2⟩, rfl⟩
      have HB2 := Lib.hid hb2
      clear hb2
      cases b2 with
      | false =>
        have hA : Hid (Rv.above n rs p (i + 1) = Rv.above n rs p i) := by
          show _ = _
          rw [Rv.above_succ, if_neg (fun k => by have := HB2.out.2 (Rv.toB_iff.1 k); cases this), List.append_nil]
        go_wp2_with fail
        go_roundw
        case rel => exact ⟨i + 1, by omega, by go_num, Lib.hid (by rw [hA.out]; exact hO.out), hB⟩
        case measure => simp [intOf]; omega
      | true =>
        have hA : Hid (Rv.above n rs p (i + 1) = Rv.above n rs p i ++ [i]) := by
          show _ = _
          rw [Rv.above_succ, if_pos (Rv.toB_iff.2 (by have := HB2.out; simpa using this))]
        have zw : w.heap.size ≤ w2.heap.size := hB.out.size
        go_wp2_with (at_builtin; refine wpList_append_lies _ rfl _ _ 23 rfl w.heap.size 2 i1 (.int .i64 0) 1 8 Tryd.underlying23 hi1 hy0 hy1 hy2 rfl (by decide) _ _ _ rfl (hO.out.alloc _) ⟨w2.heap.size, 0, none⟩ 1 1 [.int .i64 (i : Int)] rfl rfl ?a1 ?a2 ?a3 ?a4 ?a5 ?a6 (w2.heap.size + 1) ?a7 ?_)
        try (case a1 => (intro j u hj; match j, hj with
          | 0, hj => (simp at hj; subst hj; simp [Addr.add])))
        try (case a2 => first | rfl | (intro u hu; simp at hu; subst hu; rfl))
        try (case a3 => omega)
        try (case a4 => (unfold maxLen; omega))
        try (case a5 => omega)
        try (case a6 => first | omega | (simp; omega))
        try (case a7 => simp)
        intro g cap W3 hown hgrow hat hlt3
        have HO3 : Hid (W3.ownsRow w.heap.size 2 1 (.slice (some ⟨g, 0, none⟩) ((Rv.above n rs p i).length + 1) cap) (Rv.above n rs p (i + 1)).length (natVs (Rv.above n rs p (i + 1)))) := Lib.hid (by
          rw [hA.out, natVs_app]; simpa using hown)
        have HB3 : Hid (Below w.heap.size w W3) := (hB.out.alloc hB.out.size _).grown hgrow (by simp; omega) (fun k hk => (hO.out.lt k hk).1)
        clear hown hgrow hat hlt3 hO hB hA
        go_wp2_with fail
        go_roundw
        case rel => exact ⟨i + 1, by omega, by go_num, HO3, HB3⟩
        case measure => simp [intOf]; omega
    · obtain rfl : i = p + 1 := by omega
      have hA := Rv.above_all HR.out hp
      have HA := Lib.hid hA
      clear hA
      go_wp2_with fail
      go_ret
      exact ⟨⟨_, rfl, by rw [HA.out]; exact hO.out⟩, hB.out⟩
end Go.Proofs.YtdpghhmcibiplaaDoor
