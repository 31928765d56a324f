/-
  The code of a program: the program's.
-/
import Derived.Test.YtgkdnpnnmmpnmaaCyPi
import Derived.Test.YtgkdnpnnmmpnmaaCyPc
namespace Go.Proofs.Ytgkdnpnnmmpnmaa
open Go.RowKit Go.Deep

set_option maxRecDepth 100000 in
set_option maxHeartbeats 8000000 in
theorem implCode_any (p : Pg.Prog) (la : Option Addr) (lk : Nat) (fa : Option Addr) (fk : Nat) (wa : Option Addr) (wk : Nat) (w : World) (h : PgAt p la fa wa w) (hs : PgSmall p) :
    Calls Try.prog 15 #[pgV p la lk fa fk wa wk] w fun e w' => (∃ v, e = .returned v ∧ w'.ownsRow w.heap.size 61 3 v (Pc.code p).length (opV (Pc.code p))) ∧ Below w.heap.size w w' := by
  obtain ⟨W, hW⟩ : ∃ W, W = w.alloc (.cells #[.slice la p.bn lk, .slice fa p.on fk, .slice wa p.nn wk] 34) := ⟨_, rfl⟩
  have S0 : Hid (PcS p la lk fa fk wa wk [] (.slice none 0 0) w W) := by
    show PcS _ _ _ _ _ _ _ _ _ _ _
    rw [hW]
    exact ⟨rowN_alloc w _ _, World.ownsRow_nil _ _ _ _, nbel_alloc _ _⟩
  have H := Lib.hid h
  have HS := Lib.hid hs
  have hb1 : p.bn ≤ 1048576 := hs.1.1
  have HW := Lib.hid hW
  clear h hs hW
  obtain ⟨⟨x0, x1, x2⟩, _⟩ := rowN3 S0.out.box
  rw [HW.out] at x0 x1 x2
  go_enter Try.func15, Try.ntmps15
  go_wp2_with fail
  rw [← HW.out]
  clear HW x0 x1 x2
  refine (implPRight_any p la lk fa fk wa wk _ (H.out.below S0.out.old) HS.out).mono ?_
  rintro e w1 ⟨rfl, hb⟩
  have S1 := Lib.hid (S0.out.below hb)
  clear hb S0
  by_cases k : Pg.Right p
  · rw [dB_tt k]
    have HE := Lib.hid (Pc.code_yes k)
    have HR := Lib.hid k
    have hbn := k.n
    have hnn := k.m
    have hon := k.on
    clear k
    obtain ⟨⟨x0, x1, x2⟩, _⟩ := rowN3 S1.out.box
    go_wp2_with fail
    clear x0 x1 x2
    go_loopw [3, 16] (fun vv iv wr => ∃ (i : Nat) (v : Value), i ≤ p.bn ∧ vv = v ∧ iv = .int .i64 i ∧ Hid (PcS p la lk fa fk wa wk (Pc.bks p i) v w wr)) (fun _ iv _ => p.bn - (intOf iv).toNat)
    case atStart => exact ⟨0, _, Nat.zero_le _, rfl, rfl, S1⟩
    case round =>
      obtain ⟨i, v, hi, hv, rfl, hS⟩ := hrel
      have hv2 := hv.symm
      clear hv S1
      subst hv2
      by_cases hlt : i < p.bn
      · have hltz : (i : Int) < (p.bn : Int) := by omega
        obtain ⟨b, eb, c0, c1, c2, c3⟩ := (H.out.l.below hS.out.old).at_ hlt
        subst eb
        have hlen := Pc.bks_len p i
        have hol := Pc.opsB_len i (p.B i)
        have hsz := hS.out.old.size
        have hkk := (HR.out.b i hlt).2.2.kind
        go_wp2_with fail
        refine (opsOf_any i (p.B i) _ hkk).mono ?_
        rintro e w2 ⟨⟨g, rfl, hc⟩, hb⟩
        have S2 := Lib.hid ((hS.out.alloc _).below hb)
        have HC := Lib.hid hc
        have HB : Hid (Pc.bks p (i + 1) = (Pc.bks p i ++ Pc.opsB i (p.B i)) ++ [(6, (i : Int), 0)]) := rfl
        obtain ⟨m, hm⟩ : ∃ m, m = Pc.opsB i (p.B i) := ⟨_, rfl⟩
        rw [← hm] at HB HC hol ⊢
        obtain ⟨N, hN⟩ : ∃ N, N = m.length := ⟨_, rfl⟩
        rw [← hN] at hol ⊢
        have HN := Lib.hid hN
        have hw2 := S2.out.old.size
        clear hm hN hb hc hS hkk c0 c1 c2 c3
        go_wp2_with (at_builtin; refine wpList_append_ops rfl _ _ rfl w.heap.size _ (Pc.bks p i) m rfl S2.out.own ⟨g, 0, none⟩ N N rfl HN.out HC.out ?c2 ?c3 ?_)
        case c2 => rw [← HN.out]; omega
        case c3 => omega
        intro v1 w3 hown hgrow
        have S3 := Lib.hid (S2.out.push hown (by rw [List.length_append]) hgrow)
        have hw3 := S3.out.old.size
        obtain ⟨L, hL⟩ : ∃ L, L = Pc.bks p i ++ m := ⟨_, rfl⟩
        have hLL : L.length = (Pc.bks p i).length + N := by rw [hL, List.length_append, ← HN.out]
        have hLn : L.length ≤ i * 7 + 6 := by omega
        rw [← hL] at S3 HB
        clear hown hgrow S2 hL hLL
        go_wp2_with (at_builtin; refine wpList_append_ops rfl _ _ rfl w.heap.size _ L [(6, (i : Int), 0)] rfl (S3.out.alloc _).own ⟨w3.heap.size, 0, none⟩ 1 1 rfl rfl (ops_new w3 [(6, (i : Int), 0)] _) ?d2 ?d3 ?_)
        case d2 => show _ + 1 ≤ 1000000; omega
        case d3 => simp; omega
        intro v2 w4 hown hgrow
        have S4 : Hid (PcS p (some ⟨b, 0, none⟩) lk fa fk wa wk (Pc.bks p (i + 1)) v2 w w4) := by
          show PcS _ _ _ _ _ _ _ _ _ _ _
          rw [HB.out]
          exact (S3.out.alloc _).push hown (by simp) hgrow
        clear hown hgrow S3
        go_wp2_with fail
        go_roundw
        case rel => exact ⟨i + 1, v2, by omega, rfl, by go_num, S4⟩
        case measure => simp [intOf]; omega
      · obtain rfl : i = p.bn := by omega
        clear hi
        obtain ⟨⟨x0, x1, x2⟩, _⟩ := rowN3 hS.out.box
        go_wp2_with fail
        clear x0 x1 x2
        go_loopw [3, 35] (fun vv iv wr => ∃ (j : Nat) (v : Value), j ≤ p.nn ∧ vv = v ∧ iv = .int .i64 j ∧ Hid (PcS p la lk fa fk wa wk (Pc.nvs p j) v w wr)) (fun _ iv _ => p.nn - (intOf iv).toNat)
        case atStart => exact ⟨0, _, Nat.zero_le _, rfl, rfl, hS⟩
        case round =>
          obtain ⟨j, v, hj, hv, rfl, hT⟩ := hrel
          have hv2 := hv.symm
          clear hv hS
          subst hv2
          by_cases hlt : j < p.nn
          · have hltz : (j : Int) < (p.nn : Int) := by omega
            obtain ⟨b, eb, c0, c1⟩ := (H.out.w.below hT.out.old).at2 hlt
            subst eb
            have hlen := Pc.nvs_len p j
            have hsz := hT.out.old.size
            go_wp2_with fail
            obtain ⟨V, hV⟩ : ∃ V, V = wr.alloc (.cells #[.int .i64 (p.N (j * 2)), .int .i64 (p.N (j * 2 + 1))] 63) := ⟨_, rfl⟩
            have RV : V.rowIs wr.heap.size 63 2 (rowN [.int .i64 (p.N (j * 2)), .int .i64 (p.N (j * 2 + 1))]) := by rw [hV]; exact rowN_alloc wr _ _
            have SV : PcS p la lk fa fk (some ⟨b, 0, none⟩) wk (Pc.nvs p j) v w V := by rw [hV]; exact hT.out.alloc _
            rw [← hV]
            clear hV hT c0 c1
            refine wp_region_held_drew (S := fun U => Below w.heap.size w U ∧ U.rowIs wr.heap.size 63 2 (rowN [.int .i64 (p.N (j * 2)), .int .i64 (p.N (j * 2 + 1))])) (by kernel_rfl) ⟨(SV.below (Below.refl _ _).drew).old, nrow_below RV (Below.refl _ _).drew⟩ (fun hHeld => ?_)
            have SZ := Lib.hid (SV.below (Below.refl _ _).drew)
            obtain ⟨Z, hZ⟩ : ∃ Z, Z = V.drew := ⟨_, rfl⟩
            rw [← hZ] at hHeld SZ ⊢
            have RN : Hid (∀ {U : World} {v2 : Value} {l : List Pc.Op}, PcS p la lk fa fk (some ⟨b, 0, none⟩) wk l v2 w U → U.rowIs wr.heap.size 63 2 (rowN [.int .i64 (p.N (j * 2)), .int .i64 (p.N (j * 2 + 1))]) → v2.ownBlock ≠ some wr.heap.size) := fun h1 h2 => h1.ne h2 (by decide)
            clear hZ RV SV
            refine take_do (i := 0) (v := v) rfl (by kernel_rfl) (by kernel_rfl) (by kernel_rfl) (fun _ _ _ h => h) (by rfl) ?_ (by assumption) ?_
            · intro w hSw
              go_simp
            simp only [Act.put, List.setIfInBounds_toArray, List.set_cons_zero, List.set_cons_succ]
            refine take_do (i := 1) (v := (.pointer (some ⟨wr.heap.size, 0, none⟩))) rfl (by kernel_rfl) (by kernel_rfl) (by kernel_rfl) (fun _ _ _ h => h) (by rfl) ?_ (by assumption) ?_
            · intro w hSw
              go_simp
            simp only [Act.put, List.setIfInBounds_toArray, List.set_cons_zero, List.set_cons_succ]
            refine take_do (i := 2) (v := (.int .i64 (p.N (j * 2)))) rfl (by kernel_rfl) (by kernel_rfl) (by kernel_rfl) (fun _ _ _ h => h) (by rfl) ?_ (by assumption) ?_
            · intro w hSw
              obtain ⟨⟨a0, a1⟩, _⟩ := rowN2 hSw.2
              go_simp
            simp only [Act.put, List.setIfInBounds_toArray, List.set_cons_zero, List.set_cons_succ]
            refine take_do (i := 4) (v := (.pointer (some ⟨wr.heap.size, 1, none⟩))) rfl (by kernel_rfl) (by kernel_rfl) (by kernel_rfl) (fun _ _ _ h => h) (by rfl) ?_ (by assumption) ?_
            · intro w hSw
              go_simp
            simp only [Act.put, List.setIfInBounds_toArray, List.set_cons_zero, List.set_cons_succ]
            refine take_do (i := 5) (v := (.int .i64 (p.N (j * 2 + 1)))) rfl (by kernel_rfl) (by kernel_rfl) (by kernel_rfl) (fun _ _ _ h => h) (by rfl) ?_ (by assumption) ?_
            · intro w hSw
              obtain ⟨⟨a0, a1⟩, _⟩ := rowN2 hSw.2
              go_simp
            simp only [Act.put, List.setIfInBounds_toArray, List.set_cons_zero, List.set_cons_succ]
            refine take_do (i := 7) (v := (.agg #[.int .i64 2, .int .i64 0, .int .i64 0])) rfl (by kernel_rfl) (by kernel_rfl) (by kernel_rfl) (fun _ _ _ h => h) (by rfl) ?_ (by assumption) ?_
            · intro w hSw
              go_simp
            simp only [Act.put, List.setIfInBounds_toArray, List.set_cons_zero, List.set_cons_succ]
            refine take_do (i := 8) (v := (.agg #[.int .i64 10, .int .i64 0, .int .i64 0])) rfl (by kernel_rfl) (by kernel_rfl) (by kernel_rfl) (fun _ _ _ h => h) (by rfl) ?_ (by assumption) ?_
            · intro w hSw
              go_simp
            simp only [Act.put, List.setIfInBounds_toArray, List.set_cons_zero, List.set_cons_succ]
            refine take_call (i := 3) rfl (by kernel_rfl) (fun K2 hK => ?_)
            go_simp
            refine (loadOf_any (p.N (j * 2)) _).mono ?_
            rintro e w39 ⟨rfl, hb⟩
            go_wp2_with fail
            replace SZ := Lib.hid (SZ.out.below hb)
            refine hK.out _ _ ⟨SZ.out.old, nrow_below hHeld.2 hb⟩ (fun hHeld2 => ?_)
            clear hK hHeld hb
            have hHeld := hHeld2
            clear hHeld2
            refine take_call (i := 6) rfl (by kernel_rfl) (fun K2 hK => ?_)
            go_simp
            refine (loadOf_any (p.N (j * 2 + 1)) _).mono ?_
            rintro e w69 ⟨rfl, hb⟩
            go_wp2_with fail
            replace SZ := Lib.hid (SZ.out.below hb)
            refine hK.out _ _ ⟨SZ.out.old, nrow_below hHeld.2 hb⟩ (fun hHeld2 => ?_)
            clear hK hHeld hb
            have hHeld := hHeld2
            clear hHeld2
            have hz := SZ.out.old.size
            refine take_call (i := 9) rfl (by kernel_rfl) (fun K2 hK => ?_)
            go_simp
            refine hK.out _ _ ⟨(SZ.out.alloc _).old, nrow_below hHeld.2 (nbel_alloc _ _)⟩ (fun hHeld2 => ?_)
            clear hK
            refine take_call (i := 10) rfl (by kernel_rfl) (fun K2 hK => ?_)
            refine step_append_ops rfl (.tmp 39) (.tmp 48) rfl w.heap.size v (Pc.nvs p j) [(7, p.N (j * 2), 0), (7, p.N (j * 2 + 1), 0), (2, 0, 0), (10, 0, 0)] rfl (SZ.out.alloc _).own ⟨w69.heap.size, 0, none⟩ 4 4 rfl rfl (ops_new w69 _ _) (by show _ + 4 ≤ 1000000; omega) (by have := hHeld2.1.size; omega) ?_
            intro v2 w2 hown hgrow
            have S2 : Hid (PcS p la lk fa fk (some ⟨b, 0, none⟩) wk (Pc.nvs p (j + 1)) v2 w w2) := (SZ.out.alloc _).push hown rfl hgrow
            refine hK.out _ _ ⟨S2.out.old, hHeld2.2.of_block (hgrow.block _ hHeld2.2.lt (fun e => RN.out (SZ.out.alloc _) hHeld2.2 e.symm))⟩ (fun hHeld3 => ?_)
            clear hK hown hgrow SZ hHeld hHeld2
            simp only [Act.put, List.setIfInBounds_toArray, List.set_cons_zero, List.set_cons_succ]
            refine take_do (i := 11) (v := v2) rfl (by kernel_rfl) (by kernel_rfl) (by kernel_rfl) (fun _ _ _ h => h) (by rfl) ?_ (by assumption) ?_
            · intro w hSw
              go_simp
            simp only [Act.put, List.setIfInBounds_toArray, List.set_cons_zero, List.set_cons_succ]
            refine wpAnyH_done (by kernel_rfl) ?_ _
            clear hHeld3
            go_wp2_with fail
            go_roundw
            case rel => exact ⟨j + 1, v2, by omega, rfl, by go_num, S2⟩
            case measure => simp [intOf]; omega
          · obtain rfl : j = p.nn := by omega
            clear hj
            obtain ⟨⟨x0, x1, x2⟩, _⟩ := rowN3 hT.out.box
            go_wp2_with fail
            clear x0 x1 x2
            go_loopw [3, 54] (fun vv iv wr => ∃ (m : Nat) (v : Value), m ≤ p.on ∧ vv = v ∧ iv = .int .i64 m ∧ Hid (PcS p la lk fa fk wa wk (Pc.ous p m) v w wr)) (fun _ iv _ => p.on - (intOf iv).toNat)
            case atStart => exact ⟨0, _, Nat.zero_le _, rfl, rfl, hT⟩
            case round =>
              obtain ⟨m, v3, hm, hv, rfl, hU⟩ := hrel
              have hv2 := hv.symm
              clear hv hT
              subst hv2
              by_cases hlt : m < p.on
              · have hltz : (m : Int) < (p.on : Int) := by omega
                obtain ⟨b, eb, c0⟩ := (H.out.f.below hU.out.old).at1 hlt
                subst eb
                have hlen := Pc.ous_len p m
                have hsz := hU.out.old.size
                go_wp2_with fail
                refine (loadOf_any (p.O m) _).mono ?_
                rintro e w2 ⟨rfl, hb⟩
                have S2 := Lib.hid (hU.out.below hb)
                have hw2 := S2.out.old.size
                clear hb hU c0
                go_wp2_with (at_builtin; refine wpList_append_ops rfl _ _ rfl w.heap.size _ (Pc.ous p m) [(7, p.O m, 0), (9, 0, 0)] rfl (S2.out.alloc _).own ⟨w2.heap.size, 0, none⟩ 2 2 rfl rfl (ops_new w2 [(7, p.O m, 0), (9, 0, 0)] _) ?f2 ?f3 ?_)
                case f2 => show _ + 2 ≤ 1000000; omega
                case f3 => simp; omega
                intro v2 w3 hown hgrow
                have S3 : Hid (PcS p la lk (some ⟨b, 0, none⟩) fk wa wk (Pc.ous p (m + 1)) v2 w w3) := (S2.out.alloc _).push hown (by rw [Pc.ous]; simp) hgrow
                clear hown hgrow S2
                go_wp2_with fail
                go_roundw
                case rel => exact ⟨m + 1, v2, by omega, rfl, by go_num, S3⟩
                case measure => simp [intOf]; omega
              · obtain rfl : m = p.on := by omega
                go_wp2_with fail
                go_ret
                exact ⟨⟨v3, rfl, by rw [HE.out]; exact hU.out.own⟩, hU.out.old⟩
  · rw [dB_ff k]
    have HE := Lib.hid (Pc.code_no k)
    clear k
    go_wp2_with fail
    go_ret
    exact ⟨⟨_, rfl, by rw [HE.out]; exact World.ownsRow_nil _ _ _ _⟩, S1.out.old⟩
theorem implCode_any' (p : Pg.Prog) (la : Option Addr) (lk : Nat) (fa : Option Addr) (fk : Nat) (wa : Option Addr) (wk : Nat) (w : World) (h : PgAt p la fa wa w) (hs : PgSmall p) :
    Calls Try.prog 15 #[pgV p la lk fa fk wa wk] w fun e w' => (∃ a k, e = .returned (.slice a (Pc.code p).length k) ∧ CyO 61 w.heap.size ((Pc.code p).length * 3) a k (Pc.fl (Pc.code p)) w') ∧ Below w.heap.size w w' :=
  (implCode_any p la lk fa fk wa wk w h hs).mono (fun _ _ ⟨⟨_, h1, h2⟩, h3⟩ => by obtain ⟨a, k, e, h4⟩ := own_ops h2; exact ⟨⟨a, k, by rw [h1, e], h4⟩, h3⟩)
theorem specCode_any' (p : Pg.Prog) (la : Option Addr) (lk : Nat) (fa : Option Addr) (fk : Nat) (wa : Option Addr) (wk : Nat) (w : World) (h : PgAt p la fa wa w) (hs : PgSmall p) :
    Calls Try.prog 14 #[pgV p la lk fa fk wa wk] w fun e w' => (∃ a k, e = .returned (.slice a (Pc.code p).length k) ∧ CyO 61 w.heap.size ((Pc.code p).length * 3) a k (Pc.fl (Pc.code p)) w') ∧ Below w.heap.size w w' :=
  (specCode_any p la lk fa fk wa wk w h hs).mono (fun _ _ ⟨⟨_, h1, h2⟩, h3⟩ => by obtain ⟨a, k, e, h4⟩ := own_ops h2; exact ⟨⟨a, k, by rw [h1, e], h4⟩, h3⟩)
end Go.Proofs.Ytgkdnpnnmmpnmaa
