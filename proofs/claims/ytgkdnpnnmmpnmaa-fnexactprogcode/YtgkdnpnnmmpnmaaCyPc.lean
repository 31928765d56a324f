/-
  The code of a program: the model's.
-/
import Derived.Test.YtgkdnpnnmmpnmaaCyPd
namespace Go.Proofs.Ytgkdnpnnmmpnmaa
open Go.RowKit Go.Deep

set_option maxRecDepth 100000 in
set_option maxHeartbeats 8000000 in
theorem specCode_any (p : Pg.Prog) (la : Option Addr) (lk : Nat) (fa : Option Addr) (fk : Nat) (wa : Option Addr) (wk : Nat) (w : World) (h : PgAt p la fa wa w) (hs : PgSmall p) :
    Calls Try.prog 14 #[pgV p la lk fa fk wa wk] w fun e w' => (∃ v, e = .returned v ∧ w'.ownsRow w.heap.size 61 3 v (Pc.code p).length (opV (Pc.code p))) ∧ Below w.heap.size w w' := by
  obtain ⟨W, hW⟩ : ∃ W, W = (w.alloc (.cells #[.slice la p.bn lk, .slice fa p.on fk, .slice wa p.nn wk] 34)).alloc (.cells #[] 61) := ⟨_, rfl⟩
  have S0 : Hid (PcS p la lk fa fk wa wk [] (.slice (some ⟨w.heap.size + 1, 0, none⟩) 0 0) w W) := by
    show PcS _ _ _ _ _ _ _ _ _ _ _
    rw [hW]
    refine ⟨nrow_below (rowN_alloc w _ _) (nbel_alloc _ _), ?_, (nbel_alloc _ _).alloc (by simp) _⟩
    have := World.ownsRow_made (base := w.heap.size) (e := 61) (size := 3) (w.alloc (.cells #[.slice la p.bn lk, .slice fa p.on fk, .slice wa p.nn wk] 34)) #[] 0 (by simp) (by decide) (by simp)
    simpa [opV] using this
  have H := Lib.hid h
  have HS := Lib.hid hs
  have hb1 : p.bn ≤ 1048576 := hs.1.1
  have HW := Lib.hid hW
  clear h hs hW
  obtain ⟨⟨x0, x1, x2⟩, _⟩ := rowN3 S0.out.box
  rw [HW.out] at x0 x1 x2
  go_enter Try.func14, Try.ntmps14
  go_wp2_with fail
  rw [← HW.out]
  clear HW x0 x1 x2
  refine (specPRight_any p la lk fa fk wa wk _ (H.out.below S0.out.old) HS.out).mono ?_
  rintro e w1 ⟨rfl, hb⟩
  have S1 := Lib.hid (S0.out.below hb)
  clear hb S0
  by_cases k : Pg.Right p
  · rw [dB_tt k]
    have HE := Lib.hid (Pc.code_yes k)
    have HR := Lib.hid k
    have hbn := k.n
    have hnn := k.m
    have hon := k.on
    clear k
    go_wp2_with fail
    go_loopw [3, 4] (fun vv iv wr => ∃ (i : Nat) (v : Value), i ≤ p.bn ∧ vv = v ∧ iv = .int .i64 i ∧ Hid (PcS p la lk fa fk wa wk (Pc.bks p i) v w wr)) (fun _ iv _ => p.bn - (intOf iv).toNat)
    case atStart => exact ⟨0, _, Nat.zero_le _, rfl, rfl, S1⟩
    case round =>
      obtain ⟨i, v, hi, rfl, rfl, hS⟩ := hrel
      clear S1
      obtain ⟨⟨x0, x1, x2⟩, _⟩ := rowN3 hS.out.box
      by_cases hlt : i < p.bn
      · have hltz : (i : Int) < (p.bn : Int) := by omega
        obtain ⟨b, eb, c0, c1, c2, c3⟩ := (H.out.l.below hS.out.old).at_ hlt
        subst eb
        have hlen := Pc.bks_len p i
        have hsz := hS.out.old.size
        have hkk := (HR.out.b i hlt).2.2.kind
        have hkc : (p.B i).kind = 1 ∨ (p.B i).kind = 2 ∨ (p.B i).kind = 3 ∨ (p.B i).kind = 4 ∨ (p.B i).kind = 5 ∨ (p.B i).kind = 6 ∨ (p.B i).kind = 7 := by omega
        clear hkk
        rcases hkc with hk | hk | hk | hk | hk | hk | hk
        · have HB : Hid (Pc.bks p (i + 1) = Pc.bks p i ++ [(1, 0, 0), (6, (i : Int), 0)]) := by show _ = _; rw [Pc.bks, opsB_1 hk, List.append_assoc]; rfl
          have q1 : ((p.B i).kind == 1) = true := by rw [hk]; rfl
          clear hk
          go_wp2_with (at_builtin; refine wpList_append_ops rfl _ _ rfl w.heap.size _ (Pc.bks p i) [(1, 0, 0)] rfl ((((hS.out.alloc _).alloc _).alloc _).alloc _).own ⟨wr.heap.size + 1 + 1 + 1, 0, none⟩ 1 1 rfl rfl ?c11 ?c12 ?c13 ?_)
          case c11 => exact ops_new' _ [(1, 0, 0)] _ _ (by simp)
          case c12 => show _ + 1 ≤ 1000000; omega
          case c13 => simp; omega
          intro v1 w1 hown hgrow
          have S1 := Lib.hid (((((hS.out.alloc _).alloc _).alloc _).alloc _).push hown (by simp) hgrow)
          have hw1 := S1.out.old.size
          clear hown hgrow hS c0 c1 c2 c3 x0 x1 x2
          go_wp2_with (at_builtin; refine wpList_append_ops rfl _ _ rfl w.heap.size _ (Pc.bks p i ++ [(1, 0, 0)]) [(6, (i : Int), 0)] rfl (S1.out.alloc _).own ⟨w1.heap.size, 0, none⟩ 1 1 rfl rfl (ops_new w1 [(6, (i : Int), 0)] _) ?d12 ?d13 ?_)
          case d12 => rw [List.length_append]; show _ + 1 + 1 ≤ 1000000; omega
          case d13 => simp; omega
          intro v2 w2 hown hgrow
          have S2 : Hid (PcS p (some ⟨b, 0, none⟩) lk fa fk wa wk (Pc.bks p (i + 1)) v2 w w2) := by
            show PcS _ _ _ _ _ _ _ _ _ _ _
            rw [HB.out]
            exact (S1.out.alloc _).push hown (by simp) hgrow
          clear hown hgrow S1
          go_wp2_with fail
          go_roundw
          case rel => exact ⟨i + 1, v2, by omega, rfl, by go_num, S2⟩
          case measure => simp [intOf]; omega
        · have HB : Hid (Pc.bks p (i + 1) = Pc.bks p i ++ [(7, (p.B i).a, 0), (7, (p.B i).b, 0), (2, 0, 0), (6, (i : Int), 0)]) := by show _ = _; rw [Pc.bks, opsB_2 hk, List.append_assoc]; rfl
          have q1 : ((p.B i).kind == 1) = false := by rw [hk]; rfl
          have q2 : ((p.B i).kind == 2) = true := by rw [hk]; rfl
          clear hk
          go_wp2_with (at_builtin; refine wpList_append_ops rfl _ _ rfl w.heap.size _ (Pc.bks p i) [(7, (p.B i).a, 0), (7, (p.B i).b, 0), (2, 0, 0)] rfl ((((hS.out.alloc _).alloc _).alloc _).alloc _).own ⟨wr.heap.size + 1 + 1 + 1, 0, none⟩ 3 3 rfl rfl ?c21 ?c22 ?c23 ?_)
          case c21 => exact ops_new' _ [(7, (p.B i).a, 0), (7, (p.B i).b, 0), (2, 0, 0)] _ _ (by simp)
          case c22 => show _ + 3 ≤ 1000000; omega
          case c23 => simp; omega
          intro v1 w1 hown hgrow
          have S1 := Lib.hid (((((hS.out.alloc _).alloc _).alloc _).alloc _).push hown (by simp) hgrow)
          have hw1 := S1.out.old.size
          clear hown hgrow hS c0 c1 c2 c3 x0 x1 x2
          go_wp2_with (at_builtin; refine wpList_append_ops rfl _ _ rfl w.heap.size _ (Pc.bks p i ++ [(7, (p.B i).a, 0), (7, (p.B i).b, 0), (2, 0, 0)]) [(6, (i : Int), 0)] rfl (S1.out.alloc _).own ⟨w1.heap.size, 0, none⟩ 1 1 rfl rfl (ops_new w1 [(6, (i : Int), 0)] _) ?d22 ?d23 ?_)
          case d22 => rw [List.length_append]; show _ + 3 + 1 ≤ 1000000; omega
          case d23 => simp; omega
          intro v2 w2 hown hgrow
          have S2 : Hid (PcS p (some ⟨b, 0, none⟩) lk fa fk wa wk (Pc.bks p (i + 1)) v2 w w2) := by
            show PcS _ _ _ _ _ _ _ _ _ _ _
            rw [HB.out]
            exact (S1.out.alloc _).push hown (by simp) hgrow
          clear hown hgrow S1
          go_wp2_with fail
          go_roundw
          case rel => exact ⟨i + 1, v2, by omega, rfl, by go_num, S2⟩
          case measure => simp [intOf]; omega
        · have HB : Hid (Pc.bks p (i + 1) = Pc.bks p i ++ [(7, (p.B i).a, 0), (7, (p.B i).b, 0), (3, 0, 0), (6, (i : Int), 0)]) := by show _ = _; rw [Pc.bks, opsB_3 hk, List.append_assoc]; rfl
          have q1 : ((p.B i).kind == 1) = false := by rw [hk]; rfl
          have q2 : ((p.B i).kind == 2) = false := by rw [hk]; rfl
          have q3 : ((p.B i).kind == 3) = true := by rw [hk]; rfl
          clear hk
          go_wp2_with (at_builtin; refine wpList_append_ops rfl _ _ rfl w.heap.size _ (Pc.bks p i) [(7, (p.B i).a, 0), (7, (p.B i).b, 0), (3, 0, 0)] rfl ((((hS.out.alloc _).alloc _).alloc _).alloc _).own ⟨wr.heap.size + 1 + 1 + 1, 0, none⟩ 3 3 rfl rfl ?c31 ?c32 ?c33 ?_)
          case c31 => exact ops_new' _ [(7, (p.B i).a, 0), (7, (p.B i).b, 0), (3, 0, 0)] _ _ (by simp)
          case c32 => show _ + 3 ≤ 1000000; omega
          case c33 => simp; omega
          intro v1 w1 hown hgrow
          have S1 := Lib.hid (((((hS.out.alloc _).alloc _).alloc _).alloc _).push hown (by simp) hgrow)
          have hw1 := S1.out.old.size
          clear hown hgrow hS c0 c1 c2 c3 x0 x1 x2
          go_wp2_with (at_builtin; refine wpList_append_ops rfl _ _ rfl w.heap.size _ (Pc.bks p i ++ [(7, (p.B i).a, 0), (7, (p.B i).b, 0), (3, 0, 0)]) [(6, (i : Int), 0)] rfl (S1.out.alloc _).own ⟨w1.heap.size, 0, none⟩ 1 1 rfl rfl (ops_new w1 [(6, (i : Int), 0)] _) ?d32 ?d33 ?_)
          case d32 => rw [List.length_append]; show _ + 3 + 1 ≤ 1000000; omega
          case d33 => simp; omega
          intro v2 w2 hown hgrow
          have S2 : Hid (PcS p (some ⟨b, 0, none⟩) lk fa fk wa wk (Pc.bks p (i + 1)) v2 w w2) := by
            show PcS _ _ _ _ _ _ _ _ _ _ _
            rw [HB.out]
            exact (S1.out.alloc _).push hown (by simp) hgrow
          clear hown hgrow S1
          go_wp2_with fail
          go_roundw
          case rel => exact ⟨i + 1, v2, by omega, rfl, by go_num, S2⟩
          case measure => simp [intOf]; omega
        · have HB : Hid (Pc.bks p (i + 1) = Pc.bks p i ++ [(7, (p.B i).a, 0), (4, 0, 0), (6, (i : Int), 0)]) := by show _ = _; rw [Pc.bks, opsB_4 hk, List.append_assoc]; rfl
          have q1 : ((p.B i).kind == 1) = false := by rw [hk]; rfl
          have q2 : ((p.B i).kind == 2) = false := by rw [hk]; rfl
          have q3 : ((p.B i).kind == 3) = false := by rw [hk]; rfl
          have q4 : ((p.B i).kind == 4) = true := by rw [hk]; rfl
          clear hk
          go_wp2_with (at_builtin; refine wpList_append_ops rfl _ _ rfl w.heap.size _ (Pc.bks p i) [(7, (p.B i).a, 0), (4, 0, 0)] rfl ((((hS.out.alloc _).alloc _).alloc _).alloc _).own ⟨wr.heap.size + 1 + 1 + 1, 0, none⟩ 2 2 rfl rfl ?c41 ?c42 ?c43 ?_)
          case c41 => exact ops_new' _ [(7, (p.B i).a, 0), (4, 0, 0)] _ _ (by simp)
          case c42 => show _ + 2 ≤ 1000000; omega
          case c43 => simp; omega
          intro v1 w1 hown hgrow
          have S1 := Lib.hid (((((hS.out.alloc _).alloc _).alloc _).alloc _).push hown (by simp) hgrow)
          have hw1 := S1.out.old.size
          clear hown hgrow hS c0 c1 c2 c3 x0 x1 x2
          go_wp2_with (at_builtin; refine wpList_append_ops rfl _ _ rfl w.heap.size _ (Pc.bks p i ++ [(7, (p.B i).a, 0), (4, 0, 0)]) [(6, (i : Int), 0)] rfl (S1.out.alloc _).own ⟨w1.heap.size, 0, none⟩ 1 1 rfl rfl (ops_new w1 [(6, (i : Int), 0)] _) ?d42 ?d43 ?_)
          case d42 => rw [List.length_append]; show _ + 2 + 1 ≤ 1000000; omega
          case d43 => simp; omega
          intro v2 w2 hown hgrow
          have S2 : Hid (PcS p (some ⟨b, 0, none⟩) lk fa fk wa wk (Pc.bks p (i + 1)) v2 w w2) := by
            show PcS _ _ _ _ _ _ _ _ _ _ _
            rw [HB.out]
            exact (S1.out.alloc _).push hown (by simp) hgrow
          clear hown hgrow S1
          go_wp2_with fail
          go_roundw
          case rel => exact ⟨i + 1, v2, by omega, rfl, by go_num, S2⟩
          case measure => simp [intOf]; omega
        · have HB : Hid (Pc.bks p (i + 1) = Pc.bks p i ++ [(5, (p.B i).a, 0), (6, (i : Int), 0)]) := by show _ = _; rw [Pc.bks, opsB_5 hk, List.append_assoc]; rfl
          have q1 : ((p.B i).kind == 1) = false := by rw [hk]; rfl
          have q2 : ((p.B i).kind == 2) = false := by rw [hk]; rfl
          have q3 : ((p.B i).kind == 3) = false := by rw [hk]; rfl
          have q4 : ((p.B i).kind == 4) = false := by rw [hk]; rfl
          have q5 : ((p.B i).kind == 5) = true := by rw [hk]; rfl
          clear hk
          go_wp2_with (at_builtin; refine wpList_append_ops rfl _ _ rfl w.heap.size _ (Pc.bks p i) [(5, (p.B i).a, 0)] rfl ((((hS.out.alloc _).alloc _).alloc _).alloc _).own ⟨wr.heap.size + 1 + 1 + 1, 0, none⟩ 1 1 rfl rfl ?c51 ?c52 ?c53 ?_)
          case c51 => exact ops_new' _ [(5, (p.B i).a, 0)] _ _ (by simp)
          case c52 => show _ + 1 ≤ 1000000; omega
          case c53 => simp; omega
          intro v1 w1 hown hgrow
          have S1 := Lib.hid (((((hS.out.alloc _).alloc _).alloc _).alloc _).push hown (by simp) hgrow)
          have hw1 := S1.out.old.size
          clear hown hgrow hS c0 c1 c2 c3 x0 x1 x2
          go_wp2_with (at_builtin; refine wpList_append_ops rfl _ _ rfl w.heap.size _ (Pc.bks p i ++ [(5, (p.B i).a, 0)]) [(6, (i : Int), 0)] rfl (S1.out.alloc _).own ⟨w1.heap.size, 0, none⟩ 1 1 rfl rfl (ops_new w1 [(6, (i : Int), 0)] _) ?d52 ?d53 ?_)
          case d52 => rw [List.length_append]; show _ + 1 + 1 ≤ 1000000; omega
          case d53 => simp; omega
          intro v2 w2 hown hgrow
          have S2 : Hid (PcS p (some ⟨b, 0, none⟩) lk fa fk wa wk (Pc.bks p (i + 1)) v2 w w2) := by
            show PcS _ _ _ _ _ _ _ _ _ _ _
            rw [HB.out]
            exact (S1.out.alloc _).push hown (by simp) hgrow
          clear hown hgrow S1
          go_wp2_with fail
          go_roundw
          case rel => exact ⟨i + 1, v2, by omega, rfl, by go_num, S2⟩
          case measure => simp [intOf]; omega
        · have HB : Hid (Pc.bks p (i + 1) = Pc.bks p i ++ [(5, (i : Int), 0), (7, (p.B i).a, 0), (3, 0, 0), (7, (p.B i).b, 0), (4, 0, 0), (2, 0, 0), (6, (i : Int), 0)]) := by show _ = _; rw [Pc.bks, opsB_6 hk, List.append_assoc]; rfl
          have q1 : ((p.B i).kind == 1) = false := by rw [hk]; rfl
          have q2 : ((p.B i).kind == 2) = false := by rw [hk]; rfl
          have q3 : ((p.B i).kind == 3) = false := by rw [hk]; rfl
          have q4 : ((p.B i).kind == 4) = false := by rw [hk]; rfl
          have q5 : ((p.B i).kind == 5) = false := by rw [hk]; rfl
          have q6 : ((p.B i).kind == 6) = true := by rw [hk]; rfl
          clear hk
          go_wp2_with (at_builtin; refine wpList_append_ops rfl _ _ rfl w.heap.size _ (Pc.bks p i) [(5, (i : Int), 0), (7, (p.B i).a, 0), (3, 0, 0), (7, (p.B i).b, 0), (4, 0, 0), (2, 0, 0)] rfl ((((hS.out.alloc _).alloc _).alloc _).alloc _).own ⟨wr.heap.size + 1 + 1 + 1, 0, none⟩ 6 6 rfl rfl ?c61 ?c62 ?c63 ?_)
          case c61 => exact ops_new' _ [(5, (i : Int), 0), (7, (p.B i).a, 0), (3, 0, 0), (7, (p.B i).b, 0), (4, 0, 0), (2, 0, 0)] _ _ (by simp)
          case c62 => show _ + 6 ≤ 1000000; omega
          case c63 => simp; omega
          intro v1 w1 hown hgrow
          have S1 := Lib.hid (((((hS.out.alloc _).alloc _).alloc _).alloc _).push hown (by simp) hgrow)
          have hw1 := S1.out.old.size
          clear hown hgrow hS c0 c1 c2 c3 x0 x1 x2
          go_wp2_with (at_builtin; refine wpList_append_ops rfl _ _ rfl w.heap.size _ (Pc.bks p i ++ [(5, (i : Int), 0), (7, (p.B i).a, 0), (3, 0, 0), (7, (p.B i).b, 0), (4, 0, 0), (2, 0, 0)]) [(6, (i : Int), 0)] rfl (S1.out.alloc _).own ⟨w1.heap.size, 0, none⟩ 1 1 rfl rfl (ops_new w1 [(6, (i : Int), 0)] _) ?d62 ?d63 ?_)
          case d62 => rw [List.length_append]; show _ + 6 + 1 ≤ 1000000; omega
          case d63 => simp; omega
          intro v2 w2 hown hgrow
          have S2 : Hid (PcS p (some ⟨b, 0, none⟩) lk fa fk wa wk (Pc.bks p (i + 1)) v2 w w2) := by
            show PcS _ _ _ _ _ _ _ _ _ _ _
            rw [HB.out]
            exact (S1.out.alloc _).push hown (by simp) hgrow
          clear hown hgrow S1
          go_wp2_with fail
          go_roundw
          case rel => exact ⟨i + 1, v2, by omega, rfl, by go_num, S2⟩
          case measure => simp [intOf]; omega
        · have HB : Hid (Pc.bks p (i + 1) = Pc.bks p i ++ [(7, (p.B i).a, 0), (8, (i : Int), (p.B i).b), (6, (i : Int), 0)]) := by show _ = _; rw [Pc.bks, opsB_7 hk, List.append_assoc]; rfl
          have q1 : ((p.B i).kind == 1) = false := by rw [hk]; rfl
          have q2 : ((p.B i).kind == 2) = false := by rw [hk]; rfl
          have q3 : ((p.B i).kind == 3) = false := by rw [hk]; rfl
          have q4 : ((p.B i).kind == 4) = false := by rw [hk]; rfl
          have q5 : ((p.B i).kind == 5) = false := by rw [hk]; rfl
          have q6 : ((p.B i).kind == 6) = false := by rw [hk]; rfl
          clear hk
          go_wp2_with (at_builtin; refine wpList_append_ops rfl _ _ rfl w.heap.size _ (Pc.bks p i) [(7, (p.B i).a, 0), (8, (i : Int), (p.B i).b)] rfl ((((hS.out.alloc _).alloc _).alloc _).alloc _).own ⟨wr.heap.size + 1 + 1 + 1, 0, none⟩ 2 2 rfl rfl ?c71 ?c72 ?c73 ?_)
          case c71 => exact ops_new' _ [(7, (p.B i).a, 0), (8, (i : Int), (p.B i).b)] _ _ (by simp)
          case c72 => show _ + 2 ≤ 1000000; omega
          case c73 => simp; omega
          intro v1 w1 hown hgrow
          have S1 := Lib.hid (((((hS.out.alloc _).alloc _).alloc _).alloc _).push hown (by simp) hgrow)
          have hw1 := S1.out.old.size
          clear hown hgrow hS c0 c1 c2 c3 x0 x1 x2
          go_wp2_with (at_builtin; refine wpList_append_ops rfl _ _ rfl w.heap.size _ (Pc.bks p i ++ [(7, (p.B i).a, 0), (8, (i : Int), (p.B i).b)]) [(6, (i : Int), 0)] rfl (S1.out.alloc _).own ⟨w1.heap.size, 0, none⟩ 1 1 rfl rfl (ops_new w1 [(6, (i : Int), 0)] _) ?d72 ?d73 ?_)
          case d72 => rw [List.length_append]; show _ + 2 + 1 ≤ 1000000; omega
          case d73 => simp; omega
          intro v2 w2 hown hgrow
          have S2 : Hid (PcS p (some ⟨b, 0, none⟩) lk fa fk wa wk (Pc.bks p (i + 1)) v2 w w2) := by
            show PcS _ _ _ _ _ _ _ _ _ _ _
            rw [HB.out]
            exact (S1.out.alloc _).push hown (by simp) hgrow
          clear hown hgrow S1
          go_wp2_with fail
          go_roundw
          case rel => exact ⟨i + 1, v2, by omega, rfl, by go_num, S2⟩
          case measure => simp [intOf]; omega
      · obtain rfl : i = p.bn := by omega
        clear hi
        go_wp2_with fail
        clear x0 x1 x2
        go_loopw [3, 9] (fun vv iv wr => ∃ (j : Nat) (v : Value), j ≤ p.nn ∧ vv = v ∧ iv = .int .i64 j ∧ Hid (PcS p la lk fa fk wa wk (Pc.nvs p j) v w wr)) (fun _ iv _ => p.nn - (intOf iv).toNat)
        case atStart => exact ⟨0, _, Nat.zero_le _, rfl, rfl, hS⟩
        case round =>
          obtain ⟨j, v, hj, hv, rfl, hT⟩ := hrel
          have hv2 := hv.symm
          clear hv
          subst hv2
          clear hS
          by_cases hlt : j < p.nn
          · have hltz : (j : Int) < (p.nn : Int) := by omega
            obtain ⟨⟨x0, x1, x2⟩, _⟩ := rowN3 hT.out.box
            obtain ⟨b, eb, c0, c1⟩ := (H.out.w.below hT.out.old).at2 hlt
            subst eb
            have hlen := Pc.nvs_len p j
            have hsz := hT.out.old.size
            go_wp2_with fail
            refine wp_region_held_drew (S := fun V => V.rowIs w.heap.size 34 3 (rowN (pgL p la lk fa fk (some ⟨b, 0, none⟩) wk)) ∧ Below w.heap.size w V) (by kernel_rfl) ⟨(hT.out.below (Below.refl _ _).drew).box, (hT.out.below (Below.refl _ _).drew).old⟩ (fun hHeld => ?_)
            have SZ := Lib.hid (hT.out.below (Below.refl _ _).drew)
            obtain ⟨Z, hZ⟩ : ∃ Z, Z = wr.drew := ⟨_, rfl⟩
            rw [← hZ] at hHeld SZ ⊢
            have hz := SZ.out.old.size
            clear hZ x0 x1 x2 c0 c1 hT
            refine take_do (i := 0) (v := v) rfl (by kernel_rfl) (by kernel_rfl) (by kernel_rfl) (fun _ _ _ h => h) (by rfl) ?_ (by assumption) ?_
            · intro w hSw
              go_simp
            simp only [Act.put, List.setIfInBounds_toArray, List.set_cons_zero, List.set_cons_succ]
            refine take_do (i := 1) (v := (.pointer (some ⟨w.heap.size, 2, none⟩))) rfl (by kernel_rfl) (by kernel_rfl) (by kernel_rfl) (fun _ _ _ h => h) (by rfl) ?_ (by assumption) ?_
            · intro w hSw
              go_simp
            simp only [Act.put, List.setIfInBounds_toArray, List.set_cons_zero, List.set_cons_succ]
            refine take_do (i := 2) (v := (.slice (some ⟨b, 0, none⟩) p.nn wk)) rfl (by kernel_rfl) (by kernel_rfl) (by kernel_rfl) (fun _ _ _ h => h) (by rfl) ?_ (by assumption) ?_
            · intro w hSw
              obtain ⟨⟨a0, a1, a2⟩, _⟩ := rowN3 hSw.1
              go_simp
            simp only [Act.put, List.setIfInBounds_toArray, List.set_cons_zero, List.set_cons_succ]
            refine take_do (i := 3) (v := (.int .i64 j)) rfl (by kernel_rfl) (by kernel_rfl) (by kernel_rfl) (fun _ _ _ h => h) (by rfl) ?_ (by assumption) ?_
            · intro w hSw
              go_simp
            simp only [Act.put, List.setIfInBounds_toArray, List.set_cons_zero, List.set_cons_succ]
            refine take_do (i := 4) (v := (.pointer (some ⟨b, j * 2, none⟩))) rfl (by kernel_rfl) (by kernel_rfl) (by kernel_rfl) (fun _ _ _ h => h) (by rfl) ?_ (by assumption) ?_
            · intro w hSw
              go_simp
            simp only [Act.put, List.setIfInBounds_toArray, List.set_cons_zero, List.set_cons_succ]
            refine take_do (i := 5) (v := (.pointer (some ⟨b, j * 2, none⟩))) rfl (by kernel_rfl) (by kernel_rfl) (by kernel_rfl) (fun _ _ _ h => h) (by rfl) ?_ (by assumption) ?_
            · intro w hSw
              go_simp
            simp only [Act.put, List.setIfInBounds_toArray, List.set_cons_zero, List.set_cons_succ]
            refine take_do (i := 6) (v := (.int .i64 (p.N (j * 2)))) rfl (by kernel_rfl) (by kernel_rfl) (by kernel_rfl) (fun _ _ _ h => h) (by rfl) ?_ (by assumption) ?_
            · intro w hSw
              obtain ⟨b', eb, c0, c1⟩ := (H.out.w.below hSw.2).at2 hlt
              cases eb
              go_simp
            simp only [Act.put, List.setIfInBounds_toArray, List.set_cons_zero, List.set_cons_succ]
            refine take_do (i := 7) (v := (.agg #[.int .i64 7, .int .i64 (p.N (j * 2)), .int .i64 0])) rfl (by kernel_rfl) (by kernel_rfl) (by kernel_rfl) (fun _ _ _ h => h) (by rfl) ?_ (by assumption) ?_
            · intro w hSw
              go_simp
            simp only [Act.put, List.setIfInBounds_toArray, List.set_cons_zero, List.set_cons_succ]
            refine take_do (i := 8) (v := (.pointer (some ⟨w.heap.size, 2, none⟩))) rfl (by kernel_rfl) (by kernel_rfl) (by kernel_rfl) (fun _ _ _ h => h) (by rfl) ?_ (by assumption) ?_
            · intro w hSw
              go_simp
            simp only [Act.put, List.setIfInBounds_toArray, List.set_cons_zero, List.set_cons_succ]
            refine take_do (i := 9) (v := (.slice (some ⟨b, 0, none⟩) p.nn wk)) rfl (by kernel_rfl) (by kernel_rfl) (by kernel_rfl) (fun _ _ _ h => h) (by rfl) ?_ (by assumption) ?_
            · intro w hSw
              obtain ⟨⟨a0, a1, a2⟩, _⟩ := rowN3 hSw.1
              go_simp
            simp only [Act.put, List.setIfInBounds_toArray, List.set_cons_zero, List.set_cons_succ]
            refine take_do (i := 10) (v := (.int .i64 j)) rfl (by kernel_rfl) (by kernel_rfl) (by kernel_rfl) (fun _ _ _ h => h) (by rfl) ?_ (by assumption) ?_
            · intro w hSw
              go_simp
            simp only [Act.put, List.setIfInBounds_toArray, List.set_cons_zero, List.set_cons_succ]
            refine take_do (i := 11) (v := (.pointer (some ⟨b, j * 2, none⟩))) rfl (by kernel_rfl) (by kernel_rfl) (by kernel_rfl) (fun _ _ _ h => h) (by rfl) ?_ (by assumption) ?_
            · intro w hSw
              go_simp
            simp only [Act.put, List.setIfInBounds_toArray, List.set_cons_zero, List.set_cons_succ]
            refine take_do (i := 12) (v := (.pointer (some ⟨b, j * 2 + 1, none⟩))) rfl (by kernel_rfl) (by kernel_rfl) (by kernel_rfl) (fun _ _ _ h => h) (by rfl) ?_ (by assumption) ?_
            · intro w hSw
              go_simp
            simp only [Act.put, List.setIfInBounds_toArray, List.set_cons_zero, List.set_cons_succ]
            refine take_do (i := 13) (v := (.int .i64 (p.N (j * 2 + 1)))) rfl (by kernel_rfl) (by kernel_rfl) (by kernel_rfl) (fun _ _ _ h => h) (by rfl) ?_ (by assumption) ?_
            · intro w hSw
              obtain ⟨b', eb, c0, c1⟩ := (H.out.w.below hSw.2).at2 hlt
              cases eb
              go_simp
            simp only [Act.put, List.setIfInBounds_toArray, List.set_cons_zero, List.set_cons_succ]
            refine take_do (i := 14) (v := (.agg #[.int .i64 7, .int .i64 (p.N (j * 2 + 1)), .int .i64 0])) rfl (by kernel_rfl) (by kernel_rfl) (by kernel_rfl) (fun _ _ _ h => h) (by rfl) ?_ (by assumption) ?_
            · intro w hSw
              go_simp
            simp only [Act.put, List.setIfInBounds_toArray, List.set_cons_zero, List.set_cons_succ]
            refine take_do (i := 15) (v := (.agg #[.int .i64 2, .int .i64 0, .int .i64 0])) rfl (by kernel_rfl) (by kernel_rfl) (by kernel_rfl) (fun _ _ _ h => h) (by rfl) ?_ (by assumption) ?_
            · intro w hSw
              go_simp
            simp only [Act.put, List.setIfInBounds_toArray, List.set_cons_zero, List.set_cons_succ]
            refine take_do (i := 16) (v := (.agg #[.int .i64 10, .int .i64 0, .int .i64 0])) rfl (by kernel_rfl) (by kernel_rfl) (by kernel_rfl) (fun _ _ _ h => h) (by rfl) ?_ (by assumption) ?_
            · intro w hSw
              go_simp
            simp only [Act.put, List.setIfInBounds_toArray, List.set_cons_zero, List.set_cons_succ]
            refine take_call (i := 17) rfl (by kernel_rfl) (fun K2 hK => ?_)
            go_simp
            refine hK.out _ _ ⟨(SZ.out.alloc _).box, (SZ.out.alloc _).old⟩ (fun hHeld2 => ?_)
            clear hK
            refine take_call (i := 18) rfl (by kernel_rfl) (fun K2 hK => ?_)
            refine step_append_ops rfl (.tmp 106) (.tmp 123) rfl w.heap.size v (Pc.nvs p j) [(7, p.N (j * 2), 0), (7, p.N (j * 2 + 1), 0), (2, 0, 0), (10, 0, 0)] rfl (SZ.out.alloc _).own ⟨Z.heap.size, 0, none⟩ 4 4 rfl rfl (ops_new Z _ _) (by show _ + 4 ≤ 1000000; omega) (by have := hHeld2.2.size; omega) ?_
            intro v2 w2 hown hgrow
            have S2 : Hid (PcS p la lk fa fk (some ⟨b, 0, none⟩) wk (Pc.nvs p (j + 1)) v2 w w2) := (SZ.out.alloc _).push hown rfl hgrow
            refine hK.out _ _ ⟨S2.out.box, S2.out.old⟩ (fun hHeld3 => ?_)
            clear hK hown hgrow SZ hHeld hHeld2
            simp only [Act.put, List.setIfInBounds_toArray, List.set_cons_zero, List.set_cons_succ]
            refine take_do (i := 19) (v := v2) rfl (by kernel_rfl) (by kernel_rfl) (by kernel_rfl) (fun _ _ _ h => h) (by rfl) ?_ (by assumption) ?_
            · intro w hSw
              go_simp
            simp only [Act.put, List.setIfInBounds_toArray, List.set_cons_zero, List.set_cons_succ]
            refine wpAnyH_done (by kernel_rfl) ?_ _
            clear hHeld3
            go_wp2_with fail
            go_roundw
            case rel => exact ⟨j + 1, v2, by omega, rfl, by go_num, S2⟩
            case measure => simp [intOf]; omega
          · obtain rfl : j = p.nn := by omega
            clear hj
            obtain ⟨⟨x0, x1, x2⟩, _⟩ := rowN3 hT.out.box
            go_wp2_with fail
            clear x0 x1 x2
            go_loopw [3, 10] (fun vv iv wr => ∃ (m : Nat) (v : Value), m ≤ p.on ∧ vv = v ∧ iv = .int .i64 m ∧ Hid (PcS p la lk fa fk wa wk (Pc.ous p m) v w wr)) (fun _ iv _ => p.on - (intOf iv).toNat)
            case atStart => exact ⟨0, _, Nat.zero_le _, rfl, rfl, hT⟩
            case round =>
              obtain ⟨m, v3, hm, hv, rfl, hU⟩ := hrel
              have hv2 := hv.symm
              clear hv hT
              subst hv2
              obtain ⟨⟨x0, x1, x2⟩, _⟩ := rowN3 hU.out.box
              by_cases hlt : m < p.on
              · have hltz : (m : Int) < (p.on : Int) := by omega
                obtain ⟨b, eb, c0⟩ := (H.out.f.below hU.out.old).at1 hlt
                subst eb
                have hlen := Pc.ous_len p m
                have hsz := hU.out.old.size
                go_wp2_with (at_builtin; refine wpList_append_ops rfl _ _ rfl w.heap.size _ (Pc.ous p m) [(7, p.O m, 0), (9, 0, 0)] rfl (hU.out.alloc _).own ⟨wr.heap.size, 0, none⟩ 2 2 rfl rfl (ops_new wr [(7, p.O m, 0), (9, 0, 0)] _) ?f2 ?f3 ?_)
                case f2 => show _ + 2 ≤ 1000000; omega
                case f3 => simp; omega
                intro v2 w2 hown hgrow
                have S2 : Hid (PcS p la lk (some ⟨b, 0, none⟩) fk wa wk (Pc.ous p (m + 1)) v2 w w2) := (hU.out.alloc _).push hown (by rw [Pc.ous]; simp) hgrow
                clear hown hgrow hU x0 x1 x2 c0
                go_wp2_with fail
                go_roundw
                case rel => exact ⟨m + 1, v2, by omega, rfl, by go_num, S2⟩
                case measure => simp [intOf]; omega
              · obtain rfl : m = p.on := by omega
                go_wp2_with fail
                go_ret
                exact ⟨⟨v3, rfl, by rw [HE.out]; exact hU.out.own⟩, hU.out.old⟩
  · rw [dB_ff k]
    have HE := Lib.hid (Pc.code_no k)
    clear k
    go_wp2_with fail
    go_ret
    exact ⟨⟨_, rfl, by rw [HE.out]; exact S1.out.own⟩, S1.out.old⟩
end Go.Proofs.Ytgkdnpnnmmpnmaa
