/-
  The text of a program: the model's.
-/
import Derived.Test.YtiaeobocenanlaaDoorPgTp
import Derived.Deep.QuietTactic
namespace Go.Proofs.YtiaeobocenanlaaDoor
open Go.RowKit Go.Deep

theorem bsize (s : ByteArray) : s.data.toList.length = s.size := rfl
/-- A text that is told by its bytes. -/
def TxIs (T : ByteArray) (l : List UInt8) : Prop := T.data.toList = l
theorem TxIs.size {T : ByteArray} {l : List UInt8} (h : TxIs T l) : T.size = l.length := by rw [← bsize, h]
theorem TxIs.add {T : ByteArray} {l : List UInt8} (h : TxIs T l) (s : ByteArray) : TxIs (T ++ s) (l ++ s.data.toList) := by
  unfold TxIs at *
  simp [h]
theorem TxIs.eq {T : ByteArray} {l : List UInt8} (h : TxIs T l) : T = ⟨l.toArray⟩ := by
  apply ByteArray.ext
  unfold TxIs at h
  simp [← h]
theorem Pg.fw_wd {k : Nat} (h1 : 1 ≤ k) (h2 : k ≤ 7) : Pg.fw (k : Int) = Pg.wd k := by
  unfold Pg.fw
  rw [if_pos (by omega)]
  simp
theorem tsbLine (p : Pg.Prog) (i k : Nat) (s : ByteArray) (a b : Int) (h : p.B i = ⟨(k : Int), s, a, b⟩) (h1 : 1 ≤ k) (h2 : k ≤ 7) : Pg.bLine p i = Pg.lineOf ([Pg.wd k, s] ++ Pg.wa p ⟨(k : Int), s, a, b⟩ ++ Pg.wb p ⟨(k : Int), s, a, b⟩) := by
  unfold Pg.bLine Pg.wds
  rw [h]
  show Pg.lineOf ([Pg.fw (k : Int), s] ++ _ ++ _) = _
  rw [Pg.fw_wd h1 h2]
set_option linter.unusedSimpArgs false in
set_option maxRecDepth 100000 in
set_option maxHeartbeats 8000000 in
theorem specText_any' (p : Pg.Prog) (la : Option Addr) (lk : Nat) (fa : Option Addr) (fk : Nat) (wa : Option Addr) (wk : Nat) (w : World) (h : PgAt p la fa wa w) (hs : PgSmall p) :
    Calls Tryd.prog 5 #[pgV p la lk fa fk wa wk] w fun e w' => e = .returned (.string (Pg.text p)) ∧ Below w.heap.size w w' := by
  obtain ⟨W, hW⟩ : ∃ W, W = w.alloc (.cells #[.slice la p.bn lk, .slice fa p.on fk, .slice wa p.nn wk] 32) := ⟨_, rfl⟩
  have S0 : SpB p la lk fa fk wa wk w W := by rw [hW]; exact ⟨rowN_alloc w _ _, nbel_alloc _ _⟩
  have H := Lib.hid h
  have HS := Lib.hid hs
  have HW := Lib.hid hW
  have HS0 := Lib.hid S0
  clear h hs hW S0
  go_enter Tryd.func5, Tryd.ntmps5
  go_wp2_with fail
  rw [← HW.out]
  refine (specPRight_any p la lk fa fk wa wk _ (H.out.below HS0.out.old) HS.out).mono ?_
  rintro e w1 ⟨rfl, hb⟩
  have S1 := Lib.hid (HS0.out.below hb)
  clear hb HS0
  by_cases k : Pg.Right p
  case neg =>
    rw [dB_ff k]
    have HTX := Lib.hid (Pg.text_no k)
    clear k
    go_wp2_with fail
    go_ret
    exact ⟨by rw [HTX.out]; rfl, S1.out.old⟩
  rw [dB_tt k]
  have HR := Lib.hid k
  have hbn : p.bn ≤ 100 := k.n
  have hon : p.on ≤ 100 := k.on
  have hnn : p.nn ≤ 100 := k.m
  have HTX := Lib.hid (Pg.text_yes k)
  have HCB : Hid (∀ i, i ≤ p.bn → (Pg.cat (Pg.bLine p) i).length ≤ 20000) := fun i hi => by
    have := Pg.cat_len (f := Pg.bLine p) (fun i hi => Pg.bLine_len k hi) i hi
    omega
  have HCO : Hid (∀ i, i ≤ p.on → (Pg.cat (Pg.bLine p) p.bn ++ Pg.cat (Pg.oLine p) i).length ≤ 40000) := fun i hi => by
    have h1 := Pg.cat_len (f := Pg.bLine p) (fun i hi => Pg.bLine_len k hi) p.bn (Nat.le_refl _)
    have h2 := Pg.cat_len (f := Pg.oLine p) (fun i hi => Pg.oLine_len k hi) i hi
    simp only [List.length_append]
    omega
  have HCN : Hid (∀ i, i ≤ p.nn → (Pg.cat (Pg.bLine p) p.bn ++ Pg.cat (Pg.oLine p) p.on ++ Pg.cat (Pg.nLine p) i).length ≤ 60000) := fun i hi => by
    have h1 := Pg.cat_len (f := Pg.bLine p) (fun i hi => Pg.bLine_len k hi) p.bn (Nat.le_refl _)
    have h2 := Pg.cat_len (f := Pg.oLine p) (fun i hi => Pg.oLine_len k hi) p.on (Nat.le_refl _)
    have h3 := Pg.cat_len (f := Pg.nLine p) (fun i hi => Pg.nLine_len k hi) i hi
    simp only [List.length_append]
    omega
  clear k
  go_wp2_with fail
  go_loopw [3, 4] (fun tv iv wr => ∃ (i : Nat) (T : ByteArray), i ≤ p.bn ∧ tv = .string T ∧ iv = .int .i64 i ∧ Hid (TxIs T (Pg.cat (Pg.bLine p) i)) ∧ Hid (SpB p la lk fa fk wa wk w wr)) (fun _ iv _ => p.bn - (intOf iv).toNat)
  case atStart => exact ⟨0, ⟨#[]⟩, Nat.zero_le _, rfl, rfl, rfl, S1⟩
  case round =>
    obtain ⟨i, T, hi, rfl, rfl, hT, hS⟩ := hrel
    clear S1
    obtain ⟨⟨x0, x1, x2⟩, _⟩ := rowN3 hS.out.box
    have hTs : T.size ≤ 20000 := by rw [hT.out.size]; exact HCB.out i hi
    by_cases hlt : i < p.bn
    · have hltz : (i : Int) < (p.bn : Int) := by omega
      obtain ⟨b, eb, c0, c1, c2, c3⟩ := (H.out.l.below hS.out.old).at_ hlt
      subst eb
      have hkd := (HR.out.b i hlt).2.2.kind
      obtain ⟨k, s, a, d, hX⟩ : ∃ (k : Nat) (s : ByteArray) (a d : Int), p.B i = ⟨(k : Int), s, a, d⟩ := ⟨(p.B i).kind.toNat, (p.B i).name, (p.B i).a, (p.B i).b, by
        have e : ((p.B i).kind.toNat : Int) = (p.B i).kind := by omega
        rw [e]⟩
      rw [hX] at c0 c1 c2 c3 hkd
      have hk1 : 1 ≤ k := by have : (1 : Int) ≤ (k : Int) := hkd.1; omega
      have hk7 : k ≤ 7 := by have : (k : Int) ≤ 7 := hkd.2; omega
      have hk10 : (k : Int) < 10 := by omega
      have hsl : s.size ≤ 20 := by have := Pg.name_len HR.out hlt; rw [hX] at this; exact this
      have HLN := Lib.hid (tsbLine p i k s a d hX hk1 hk7)
      have HRA : Hid (Pg.fp0 (k : Int) = 1 ∨ Pg.fp0 (k : Int) = 2 → 0 ≤ a ∧ a < p.bn) := fun q => by have := Pg.ra_lt HR.out hlt (by rw [hX]; exact q); rw [hX] at this; exact this
      have HRB : Hid (Pg.fp1 (k : Int) = 1 → 0 ≤ d ∧ d < p.bn) := fun q => by have := Pg.rb_lt HR.out hlt (by rw [hX]; exact q); rw [hX] at this; exact this
      have HRD : Hid (Pg.fp1 (k : Int) = 3 → 1 ≤ d ∧ d ≤ 100) := fun q => by have := Pg.rb_del HR.out hlt (by rw [hX]; exact q); rw [hX] at this; exact this
      have hbl : b < wr.heap.size := World.block_lt_of_cell? _ _ c0
      obtain ⟨V, hV⟩ : ∃ V, V = wr.alloc (.cells #[.int .i64 (k : Int), .string s, .int .i64 a, .int .i64 d] 41) := ⟨_, rfl⟩
      have S3 : Hid (SpB p (some ⟨b, 0, none⟩) lk fa fk wa wk w V ∧ V.rowIs wr.heap.size 41 4 (rowN [.int .i64 (k : Int), .string s, .int .i64 a, .int .i64 d])) := by
        show _ ∧ _
        rw [hV]; exact ⟨hS.out.below (nbel_alloc _ _), rowN_alloc wr _ _⟩
      have HV := Lib.hid hV
      have hwl : (Pg.wd k).size ≤ 5 := by have := Pg.fw_len (k : Int); rw [Pg.fw_wd hk1 hk7] at this; exact this
      clear hV hS hX hkd
      go_wp2_with fail
      rw [← HV.out]
      refine wp_region_held_drew (S := fun U => SpB p (some ⟨b, 0, none⟩) lk fa fk wa wk w U ∧ U.rowIs wr.heap.size 41 4 (rowN [.int .i64 (k : Int), .string s, .int .i64 a, .int .i64 d])) (by kernel_rfl) ⟨S3.out.1.below (Below.refl _ _).drew, nrow_below S3.out.2 (Below.refl _ _).drew⟩ (fun hHeld => ?_)
      obtain ⟨Z, hZ⟩ : ∃ Z, Z = V.drew := ⟨_, rfl⟩
      rw [← hZ] at hHeld ⊢
      clear hZ S3 c0 c1 c2 c3 hbl HV x0 x1 x2
      refine take_do (i := 0) (v := (.string T)) rfl (by kernel_rfl) (by kernel_rfl) (by kernel_rfl) (fun _ _ _ h => h) (by rfl) ?_ (by assumption) ?_
      · intro w hSw
        skip
        go_simp
      simp only [Act.put, List.setIfInBounds_toArray, List.set_cons_zero, List.set_cons_succ]
      refine take_do (i := 2) (v := (.pointer (some ⟨wr.heap.size, 0, none⟩))) rfl (by kernel_rfl) (by kernel_rfl) (by kernel_rfl) (fun _ _ _ h => h) (by rfl) ?_ (by assumption) ?_
      · intro w hSw
        skip
        go_simp
      simp only [Act.put, List.setIfInBounds_toArray, List.set_cons_zero, List.set_cons_succ]
      refine take_do (i := 3) (v := (.int .i64 (k : Int))) rfl (by kernel_rfl) (by kernel_rfl) (by kernel_rfl) (fun _ _ _ h => h) (by rfl) ?_ (by assumption) ?_
      · intro w hSw
        obtain ⟨⟨y0, y1, y2, y3⟩, _⟩ := rowN4 hSw.2
        go_simp
      simp only [Act.put, List.setIfInBounds_toArray, List.set_cons_zero, List.set_cons_succ]
      refine take_do (i := 8) (v := (.pointer (some ⟨wr.heap.size, 1, none⟩))) rfl (by kernel_rfl) (by kernel_rfl) (by kernel_rfl) (fun _ _ _ h => h) (by rfl) ?_ (by assumption) ?_
      · intro w hSw
        skip
        go_simp
      simp only [Act.put, List.setIfInBounds_toArray, List.set_cons_zero, List.set_cons_succ]
      refine take_do (i := 9) (v := (.string s)) rfl (by kernel_rfl) (by kernel_rfl) (by kernel_rfl) (fun _ _ _ h => h) (by rfl) ?_ (by assumption) ?_
      · intro w hSw
        obtain ⟨⟨y0, y1, y2, y3⟩, _⟩ := rowN4 hSw.2
        go_simp
      simp only [Act.put, List.setIfInBounds_toArray, List.set_cons_zero, List.set_cons_succ]
      refine take_call (i := 1) rfl (by kernel_rfl) (fun K2 hK => ?_)
      go_simp
      refine (sWords_any _).mono ?_
      rintro e w2 ⟨rfl, hw2⟩
      have hwc := wdCells_at (k := k) (by omega) Z
      have hbz := nbel_alloc Z (.cells ⟨wdCells⟩ 9)
      rw [← hw2] at hwc hbz
      clear hw2
      go_wp2_with fail
      refine hK.out _ _ ⟨hHeld.1.below hbz, nrow_below hHeld.2 hbz⟩ (fun hHeld2 => ?_)
      clear hK hHeld hbz
      have hHeld := hHeld2
      clear hHeld2
      refine take_do (i := 4) (v := (.pointer (some ⟨Z.heap.size, k, none⟩))) rfl (by kernel_rfl) (by kernel_rfl) (by kernel_rfl) (fun _ _ _ h => h) (by rfl) ?_ (by assumption) ?_
      · intro w hSw
        skip
        go_simp
      simp only [Act.put, List.setIfInBounds_toArray, List.set_cons_zero, List.set_cons_succ]
      refine take_call (i := 5) rfl (by kernel_rfl) (fun K2 hK => ?_)
      go_simp
      refine hK.out _ _ hHeld (fun hHeld2 => ?_)
      clear hK hHeld hwc
      have hHeld := hHeld2
      clear hHeld2
      refine take_do (i := 6) (v := (.string (T ++ Pg.wd k))) rfl (by kernel_rfl) (by kernel_rfl) (by kernel_rfl) (fun _ _ _ h => h) (by rfl) ?_ (by assumption) ?_
      · intro w hSw
        skip
        go_simp
        omega
      simp only [Act.put, List.setIfInBounds_toArray, List.set_cons_zero, List.set_cons_succ]
      refine take_do (i := 7) (v := (.string (T ++ Pg.wd k ++ ⟨#[32]⟩))) rfl (by kernel_rfl) (by kernel_rfl) (by kernel_rfl) (fun _ _ _ h => h) (by rfl) ?_ (by assumption) ?_
      · intro w hSw
        skip
        go_simp
        omega
      simp only [Act.put, List.setIfInBounds_toArray, List.set_cons_zero, List.set_cons_succ]
      refine take_do (i := 10) (v := (.string (T ++ Pg.wd k ++ ⟨#[32]⟩ ++ s))) rfl (by kernel_rfl) (by kernel_rfl) (by kernel_rfl) (fun _ _ _ h => h) (by rfl) ?_ (by assumption) ?_
      · intro w hSw
        skip
        go_simp
        omega
      simp only [Act.put, List.setIfInBounds_toArray, List.set_cons_zero, List.set_cons_succ]
      refine take_do (i := 11) (v := (.string (T ++ Pg.wd k ++ ⟨#[32]⟩ ++ s))) rfl (by kernel_rfl) (by kernel_rfl) (by kernel_rfl) (fun _ _ _ h => h) (by rfl) ?_ (by assumption) ?_
      · intro w hSw
        skip
        go_simp
      simp only [Act.put, List.setIfInBounds_toArray, List.set_cons_zero, List.set_cons_succ]
      refine wpAnyH_done (by kernel_rfl) ?_ _
      obtain ⟨T1, hT1⟩ : ∃ T1, T1 = T ++ Pg.wd k ++ ⟨#[32]⟩ ++ s := ⟨_, rfl⟩
      rw [← hT1]
      have HT1 : Hid (TxIs T1 (Pg.cat (Pg.bLine p) i ++ (Pg.wd k).data.toList ++ [32] ++ s.data.toList)) := by
        show TxIs _ _
        rw [hT1]; exact ((hT.out.add _).add _).add _
      have hT1s : T1.size ≤ 20030 := by rw [hT1]; simp only [ByteArray.size_append]; have : (⟨#[32]⟩ : ByteArray).size = 1 := rfl; omega
      have S4 := Lib.hid hHeld
      clear hHeld hT1 hT hTs
      obtain ⟨⟨y0, y1, y2, y3⟩, _⟩ := rowN4 S4.out.2
      obtain ⟨⟨x0, x1, x2⟩, _⟩ := rowN3 S4.out.1.box
      have hk : k = 1 ∨ k = 2 ∨ k = 3 ∨ k = 4 ∨ k = 5 ∨ k = 6 ∨ k = 7 := by omega
      rcases hk with rfl | rfl | rfl | rfl | rfl | rfl | rfl
      · have HLN2 : Hid (Pg.bLine p i = Pg.lineOf [Pg.wd 1, s]) := by
          show _ = _
          rw [HLN.out]
          simp [Pg.wa, Pg.wb, Pg.fp0, Pg.fp1, Pg.nmAt]
        have HT2 : Hid (TxIs (T1 ++ ⟨#[10]⟩) (Pg.cat (Pg.bLine p) (i + 1))) := by
          have := (HT1.out.add ⟨#[10]⟩)
          show TxIs _ _
          rw [Pg.cat, HLN2.out, Pg.line2]
          simpa [List.append_assoc] using this
        have z0 : T1.size + 1 ≤ 9223372036854775807 := by omega
        have S5 := Lib.hid S4.out.1
        clear HLN HLN2 HRA HRB HRD HT1 S4
        go_wp2_with fail
        go_roundw
        case rel => exact ⟨i + 1, _, by omega, rfl, by go_num, HT2, S5⟩
        case measure => simp [intOf]; omega
      · have hq := HRA.out (by simp [Pg.fp0])
        obtain ⟨nq, hnq⟩ : ∃ na : Nat, (na : Int) = a := ⟨(a).toNat, by omega⟩
        have hbq : nq < p.bn := by omega
        have hzq : (nq : Int) < (p.bn : Int) := by omega
        obtain ⟨bq, ebq, kq0, kq1, kq2, kq3⟩ := (H.out.l.below S4.out.1.old).at_ hbq
        obtain rfl : bq = b := by simpa using ebq.symm
        clear ebq
        subst hnq
        have hlq := Pg.name_len HR.out hbq
        have hr := HRB.out (by simp [Pg.fp1])
        obtain ⟨nr, hnr⟩ : ∃ na : Nat, (na : Int) = d := ⟨(d).toNat, by omega⟩
        have hbr : nr < p.bn := by omega
        have hzr : (nr : Int) < (p.bn : Int) := by omega
        obtain ⟨br, ebr, kr0, kr1, kr2, kr3⟩ := (H.out.l.below S4.out.1.old).at_ hbr
        obtain rfl : br = bq := by simpa using ebr.symm
        clear ebr
        subst hnr
        have hlr := Pg.name_len HR.out hbr
        have HLN2 : Hid (Pg.bLine p i = Pg.lineOf [Pg.wd 2, s, (p.B nq).name, (p.B nr).name]) := by
          show _ = _
          rw [HLN.out]
          simp [Pg.wa, Pg.wb, Pg.fp0, Pg.fp1, Pg.nmAt]
        have HT2 : Hid (TxIs (T1 ++ ⟨#[32]⟩ ++ (p.B nq).name ++ ⟨#[32]⟩ ++ (p.B nr).name ++ ⟨#[10]⟩) (Pg.cat (Pg.bLine p) (i + 1))) := by
          have := (((((HT1.out.add ⟨#[32]⟩).add (p.B nq).name).add ⟨#[32]⟩).add (p.B nr).name).add ⟨#[10]⟩)
          show TxIs _ _
          rw [Pg.cat, HLN2.out, Pg.line4]
          simpa [List.append_assoc] using this
        have z0 : T1.size + 1 ≤ 9223372036854775807 := by omega
        have z1 : T1.size + 1 + (p.B nq).name.size ≤ 9223372036854775807 := by omega
        have z2 : T1.size + 1 + (p.B nq).name.size + 1 ≤ 9223372036854775807 := by omega
        have z3 : T1.size + 1 + (p.B nq).name.size + 1 + (p.B nr).name.size ≤ 9223372036854775807 := by omega
        have z4 : T1.size + 1 + (p.B nq).name.size + 1 + (p.B nr).name.size + 1 ≤ 9223372036854775807 := by omega
        have S5 := Lib.hid S4.out.1
        clear HLN HLN2 HRA HRB HRD HT1 S4
        go_wp2_with fail
        go_roundw
        case rel => exact ⟨i + 1, _, by omega, rfl, by go_num, HT2, S5⟩
        case measure => simp [intOf]; omega
      · have hq := HRA.out (by simp [Pg.fp0])
        obtain ⟨nq, hnq⟩ : ∃ na : Nat, (na : Int) = a := ⟨(a).toNat, by omega⟩
        have hbq : nq < p.bn := by omega
        have hzq : (nq : Int) < (p.bn : Int) := by omega
        obtain ⟨bq, ebq, kq0, kq1, kq2, kq3⟩ := (H.out.l.below S4.out.1.old).at_ hbq
        obtain rfl : bq = b := by simpa using ebq.symm
        clear ebq
        subst hnq
        have hlq := Pg.name_len HR.out hbq
        have hr := HRB.out (by simp [Pg.fp1])
        obtain ⟨nr, hnr⟩ : ∃ na : Nat, (na : Int) = d := ⟨(d).toNat, by omega⟩
        have hbr : nr < p.bn := by omega
        have hzr : (nr : Int) < (p.bn : Int) := by omega
        obtain ⟨br, ebr, kr0, kr1, kr2, kr3⟩ := (H.out.l.below S4.out.1.old).at_ hbr
        obtain rfl : br = bq := by simpa using ebr.symm
        clear ebr
        subst hnr
        have hlr := Pg.name_len HR.out hbr
        have HLN2 : Hid (Pg.bLine p i = Pg.lineOf [Pg.wd 3, s, (p.B nq).name, (p.B nr).name]) := by
          show _ = _
          rw [HLN.out]
          simp [Pg.wa, Pg.wb, Pg.fp0, Pg.fp1, Pg.nmAt]
        have HT2 : Hid (TxIs (T1 ++ ⟨#[32]⟩ ++ (p.B nq).name ++ ⟨#[32]⟩ ++ (p.B nr).name ++ ⟨#[10]⟩) (Pg.cat (Pg.bLine p) (i + 1))) := by
          have := (((((HT1.out.add ⟨#[32]⟩).add (p.B nq).name).add ⟨#[32]⟩).add (p.B nr).name).add ⟨#[10]⟩)
          show TxIs _ _
          rw [Pg.cat, HLN2.out, Pg.line4]
          simpa [List.append_assoc] using this
        have z0 : T1.size + 1 ≤ 9223372036854775807 := by omega
        have z1 : T1.size + 1 + (p.B nq).name.size ≤ 9223372036854775807 := by omega
        have z2 : T1.size + 1 + (p.B nq).name.size + 1 ≤ 9223372036854775807 := by omega
        have z3 : T1.size + 1 + (p.B nq).name.size + 1 + (p.B nr).name.size ≤ 9223372036854775807 := by omega
        have z4 : T1.size + 1 + (p.B nq).name.size + 1 + (p.B nr).name.size + 1 ≤ 9223372036854775807 := by omega
        have S5 := Lib.hid S4.out.1
        clear HLN HLN2 HRA HRB HRD HT1 S4
        go_wp2_with fail
        go_roundw
        case rel => exact ⟨i + 1, _, by omega, rfl, by go_num, HT2, S5⟩
        case measure => simp [intOf]; omega
      · have hq := HRA.out (by simp [Pg.fp0])
        obtain ⟨nq, hnq⟩ : ∃ na : Nat, (na : Int) = a := ⟨(a).toNat, by omega⟩
        have hbq : nq < p.bn := by omega
        have hzq : (nq : Int) < (p.bn : Int) := by omega
        obtain ⟨bq, ebq, kq0, kq1, kq2, kq3⟩ := (H.out.l.below S4.out.1.old).at_ hbq
        obtain rfl : bq = b := by simpa using ebq.symm
        clear ebq
        subst hnq
        have hlq := Pg.name_len HR.out hbq
        have HLN2 : Hid (Pg.bLine p i = Pg.lineOf [Pg.wd 4, s, (p.B nq).name]) := by
          show _ = _
          rw [HLN.out]
          simp [Pg.wa, Pg.wb, Pg.fp0, Pg.fp1, Pg.nmAt]
        have HT2 : Hid (TxIs (T1 ++ ⟨#[32]⟩ ++ (p.B nq).name ++ ⟨#[10]⟩) (Pg.cat (Pg.bLine p) (i + 1))) := by
          have := (((HT1.out.add ⟨#[32]⟩).add (p.B nq).name).add ⟨#[10]⟩)
          show TxIs _ _
          rw [Pg.cat, HLN2.out, Pg.line3]
          simpa [List.append_assoc] using this
        have z0 : T1.size + 1 ≤ 9223372036854775807 := by omega
        have z1 : T1.size + 1 + (p.B nq).name.size ≤ 9223372036854775807 := by omega
        have z2 : T1.size + 1 + (p.B nq).name.size + 1 ≤ 9223372036854775807 := by omega
        have S5 := Lib.hid S4.out.1
        clear HLN HLN2 HRA HRB HRD HT1 S4
        go_wp2_with fail
        go_roundw
        case rel => exact ⟨i + 1, _, by omega, rfl, by go_num, HT2, S5⟩
        case measure => simp [intOf]; omega
      · have hq := HRA.out (by simp [Pg.fp0])
        obtain ⟨nq, hnq⟩ : ∃ na : Nat, (na : Int) = a := ⟨(a).toNat, by omega⟩
        have hbq : nq < p.bn := by omega
        have hzq : (nq : Int) < (p.bn : Int) := by omega
        obtain ⟨bq, ebq, kq0, kq1, kq2, kq3⟩ := (H.out.l.below S4.out.1.old).at_ hbq
        obtain rfl : bq = b := by simpa using ebq.symm
        clear ebq
        subst hnq
        have hlq := Pg.name_len HR.out hbq
        have HLN2 : Hid (Pg.bLine p i = Pg.lineOf [Pg.wd 5, s, (p.B nq).name]) := by
          show _ = _
          rw [HLN.out]
          simp [Pg.wa, Pg.wb, Pg.fp0, Pg.fp1, Pg.nmAt]
        have HT2 : Hid (TxIs (T1 ++ ⟨#[32]⟩ ++ (p.B nq).name ++ ⟨#[10]⟩) (Pg.cat (Pg.bLine p) (i + 1))) := by
          have := (((HT1.out.add ⟨#[32]⟩).add (p.B nq).name).add ⟨#[10]⟩)
          show TxIs _ _
          rw [Pg.cat, HLN2.out, Pg.line3]
          simpa [List.append_assoc] using this
        have z0 : T1.size + 1 ≤ 9223372036854775807 := by omega
        have z1 : T1.size + 1 + (p.B nq).name.size ≤ 9223372036854775807 := by omega
        have z2 : T1.size + 1 + (p.B nq).name.size + 1 ≤ 9223372036854775807 := by omega
        have S5 := Lib.hid S4.out.1
        clear HLN HLN2 HRA HRB HRD HT1 S4
        go_wp2_with fail
        go_roundw
        case rel => exact ⟨i + 1, _, by omega, rfl, by go_num, HT2, S5⟩
        case measure => simp [intOf]; omega
      · have hq := HRA.out (by simp [Pg.fp0])
        obtain ⟨nq, hnq⟩ : ∃ na : Nat, (na : Int) = a := ⟨(a).toNat, by omega⟩
        have hbq : nq < p.bn := by omega
        have hzq : (nq : Int) < (p.bn : Int) := by omega
        obtain ⟨bq, ebq, kq0, kq1, kq2, kq3⟩ := (H.out.l.below S4.out.1.old).at_ hbq
        obtain rfl : bq = b := by simpa using ebq.symm
        clear ebq
        subst hnq
        have hlq := Pg.name_len HR.out hbq
        have hr := HRB.out (by simp [Pg.fp1])
        obtain ⟨nr, hnr⟩ : ∃ na : Nat, (na : Int) = d := ⟨(d).toNat, by omega⟩
        have hbr : nr < p.bn := by omega
        have hzr : (nr : Int) < (p.bn : Int) := by omega
        obtain ⟨br, ebr, kr0, kr1, kr2, kr3⟩ := (H.out.l.below S4.out.1.old).at_ hbr
        obtain rfl : br = bq := by simpa using ebr.symm
        clear ebr
        subst hnr
        have hlr := Pg.name_len HR.out hbr
        have HLN2 : Hid (Pg.bLine p i = Pg.lineOf [Pg.wd 6, s, (p.B nq).name, (p.B nr).name]) := by
          show _ = _
          rw [HLN.out]
          simp [Pg.wa, Pg.wb, Pg.fp0, Pg.fp1, Pg.nmAt]
        have HT2 : Hid (TxIs (T1 ++ ⟨#[32]⟩ ++ (p.B nq).name ++ ⟨#[32]⟩ ++ (p.B nr).name ++ ⟨#[10]⟩) (Pg.cat (Pg.bLine p) (i + 1))) := by
          have := (((((HT1.out.add ⟨#[32]⟩).add (p.B nq).name).add ⟨#[32]⟩).add (p.B nr).name).add ⟨#[10]⟩)
          show TxIs _ _
          rw [Pg.cat, HLN2.out, Pg.line4]
          simpa [List.append_assoc] using this
        have z0 : T1.size + 1 ≤ 9223372036854775807 := by omega
        have z1 : T1.size + 1 + (p.B nq).name.size ≤ 9223372036854775807 := by omega
        have z2 : T1.size + 1 + (p.B nq).name.size + 1 ≤ 9223372036854775807 := by omega
        have z3 : T1.size + 1 + (p.B nq).name.size + 1 + (p.B nr).name.size ≤ 9223372036854775807 := by omega
        have z4 : T1.size + 1 + (p.B nq).name.size + 1 + (p.B nr).name.size + 1 ≤ 9223372036854775807 := by omega
        have S5 := Lib.hid S4.out.1
        clear HLN HLN2 HRA HRB HRD HT1 S4
        go_wp2_with fail
        go_roundw
        case rel => exact ⟨i + 1, _, by omega, rfl, by go_num, HT2, S5⟩
        case measure => simp [intOf]; omega
      · have hq := HRA.out (by simp [Pg.fp0])
        obtain ⟨nq, hnq⟩ : ∃ na : Nat, (na : Int) = a := ⟨(a).toNat, by omega⟩
        have hbq : nq < p.bn := by omega
        have hzq : (nq : Int) < (p.bn : Int) := by omega
        obtain ⟨bq, ebq, kq0, kq1, kq2, kq3⟩ := (H.out.l.below S4.out.1.old).at_ hbq
        obtain rfl : bq = b := by simpa using ebq.symm
        clear ebq
        subst hnq
        have hlq := Pg.name_len HR.out hbq
        have hd := HRD.out (by simp [Pg.fp1])
        have hdl : (Lib.decDigits d.toNat).length ≤ 101 := by have := M.dec_len d.toNat; omega
        have HLN2 : Hid (Pg.bLine p i = Pg.lineOf [Pg.wd 7, s, (p.B nq).name, ⟨(Lib.decDigits d.toNat).toArray⟩]) := by
          show _ = _
          rw [HLN.out]
          simp [Pg.wa, Pg.wb, Pg.fp0, Pg.fp1, Pg.nmAt, Pg.itoa_pos hd.1]
        have HT2 : Hid (TxIs (T1 ++ ⟨#[32]⟩ ++ (p.B nq).name ++ ⟨#[32]⟩ ++ ⟨(Lib.decDigits d.toNat).toArray⟩ ++ ⟨#[10]⟩) (Pg.cat (Pg.bLine p) (i + 1))) := by
          have := (((((HT1.out.add ⟨#[32]⟩).add (p.B nq).name).add ⟨#[32]⟩).add ⟨(Lib.decDigits d.toNat).toArray⟩).add ⟨#[10]⟩)
          show TxIs _ _
          rw [Pg.cat, HLN2.out, Pg.line4]
          simpa [List.append_assoc] using this
        have z0 : T1.size + 1 ≤ 9223372036854775807 := by omega
        have z1 : T1.size + 1 + (p.B nq).name.size ≤ 9223372036854775807 := by omega
        have z2 : T1.size + 1 + (p.B nq).name.size + 1 ≤ 9223372036854775807 := by omega
        have z3 : T1.size + 1 + (p.B nq).name.size + 1 + (Lib.decDigits d.toNat).length ≤ 9223372036854775807 := by omega
        have z4 : T1.size + 1 + (p.B nq).name.size + 1 + (Lib.decDigits d.toNat).length + 1 ≤ 9223372036854775807 := by omega
        clear HLN HLN2 HRA HRB HRD HT1
        go_wp2_with fail
        refine (dec_posW d _ (by omega) (by omega)).mono ?_
        rintro e w3 ⟨rfl, hb3⟩
        have S5 := Lib.hid (S4.out.1.below hb3)
        clear hb3 S4 y0 y1 y2 y3 x0 x1 x2 kq0 kq1 kq2 kq3
        go_wp2_with fail
        go_roundw
        case rel => exact ⟨i + 1, _, by omega, rfl, by go_num, HT2, S5⟩
        case measure => simp [intOf]; omega
    · obtain rfl : i = p.bn := by omega
      obtain ⟨Q, hQ⟩ : ∃ Q, Q = wr := ⟨_, rfl⟩
      subst hQ
      have hT0 : Hid (TxIs T (Pg.cat (Pg.bLine p) p.bn ++ Pg.cat (Pg.oLine p) 0)) := by
        show TxIs _ _
        rw [Pg.cat, List.append_nil]; exact hT.out
      have S2 := hS
      clear hS hT
      go_wp2_with fail
      clear x0 x1 x2
      go_loopw [3, 6] (fun tv iv wr => ∃ (j : Nat) (T : ByteArray), j ≤ p.on ∧ tv = .string T ∧ iv = .int .i64 j ∧ Hid (TxIs T (Pg.cat (Pg.bLine p) p.bn ++ Pg.cat (Pg.oLine p) j)) ∧ Hid (SpB p la lk fa fk wa wk w wr)) (fun _ iv _ => p.on - (intOf iv).toNat)
      case atStart => exact ⟨0, T, Nat.zero_le _, rfl, rfl, hT0, S2⟩
      case round =>
        obtain ⟨j, T2, hj, rfl, rfl, hT, hS⟩ := hrel
        clear S2 hT0
        obtain ⟨⟨x0, x1, x2⟩, _⟩ := rowN3 hS.out.box
        have hTs2 : T2.size ≤ 40000 := by rw [hT.out.size]; exact HCO.out j hj
        by_cases hlt2 : j < p.on
        · have hltz : (j : Int) < (p.on : Int) := by omega
          have ho := Pg.out_lt HR.out hlt2
          obtain ⟨b, eb, c0⟩ := (H.out.f.below hS.out.old).at1 hlt2
          subst eb
          obtain ⟨na, hna⟩ : ∃ na : Nat, (na : Int) = p.O j := ⟨(p.O j).toNat, by omega⟩
          have hnb : na < p.bn := by omega
          have hnz : (na : Int) < (p.bn : Int) := by omega
          obtain ⟨bb, eb, n0, n1, n2, n3⟩ := (H.out.l.below hS.out.old).at_ hnb
          subst eb
          have hnl := Pg.name_len HR.out hnb
          have HT2 : Hid (TxIs (T2 ++ ⟨#[111, 117, 116, 32]⟩ ++ (p.B na).name ++ ⟨#[10]⟩) (Pg.cat (Pg.bLine p) p.bn ++ Pg.cat (Pg.oLine p) (j + 1))) := by
            have e1 : Pg.oLine p j = [111, 117, 116, 32] ++ (p.B na).name.data.toList ++ [10] := by
              unfold Pg.oLine
              rw [Pg.line2]
              unfold Pg.nmAt
              rw [← hna]
              rfl
            have := ((hT.out.add ⟨#[111, 117, 116, 32]⟩).add (p.B na).name).add ⟨#[10]⟩
            show TxIs _ _
            rw [Pg.cat, e1]
            simpa [List.append_assoc] using this
          have SD : Hid (∀ m, SpB p (some ⟨bb, 0, none⟩) lk (some ⟨b, 0, none⟩) fk wa wk w (wr.drewN m)) := fun m => hS.out.below (ndrewN (Below.refl _ _) m)
          rw [← hna] at c0
          have z1 : T2.size + 4 ≤ 9223372036854775807 := by omega
          have z2 : T2.size + 4 + (p.B na).name.size ≤ 9223372036854775807 := by omega
          have z3 : T2.size + 4 + (p.B na).name.size + 1 ≤ 9223372036854775807 := by omega
          clear hna hS hT ho
          go_wp2_with fail
          go_quiet (fail)
          go_wp2_with fail
          go_roundw
          case rel => exact ⟨j + 1, _, by omega, rfl, by go_num, HT2, SD.out _⟩
          case measure => simp [intOf]; omega
        · obtain rfl : j = p.on := by omega
          obtain ⟨Q, hQ⟩ : ∃ Q, Q = wr := ⟨_, rfl⟩
          subst hQ
          have hT0 : Hid (TxIs T2 (Pg.cat (Pg.bLine p) p.bn ++ Pg.cat (Pg.oLine p) p.on ++ Pg.cat (Pg.nLine p) 0)) := by
            show TxIs _ _
            rw [Pg.cat, List.append_nil]; exact hT.out
          have S2 := hS
          clear hS hT
          go_wp2_with fail
          clear x0 x1 x2
          go_loopw [3, 7] (fun tv iv wr => ∃ (j : Nat) (T : ByteArray), j ≤ p.nn ∧ tv = .string T ∧ iv = .int .i64 j ∧ Hid (TxIs T (Pg.cat (Pg.bLine p) p.bn ++ Pg.cat (Pg.oLine p) p.on ++ Pg.cat (Pg.nLine p) j)) ∧ Hid (SpB p la lk fa fk wa wk w wr)) (fun _ iv _ => p.nn - (intOf iv).toNat)
          case atStart => exact ⟨0, T2, Nat.zero_le _, rfl, rfl, hT0, S2⟩
          case round =>
            obtain ⟨j, T3, hj, rfl, rfl, hT, hS⟩ := hrel
            clear S2 hT0
            obtain ⟨⟨x0, x1, x2⟩, _⟩ := rowN3 hS.out.box
            have hTs3 : T3.size ≤ 60000 := by rw [hT.out.size]; exact HCN.out j hj
            by_cases hlt3 : j < p.nn
            · have hltz : (j : Int) < (p.nn : Int) := by omega
              have ho := Pg.nev_lt HR.out hlt3
              obtain ⟨b, eb, c0, c1⟩ := (H.out.w.below hS.out.old).at2 hlt3
              subst eb
              obtain ⟨na, hna⟩ : ∃ na : Nat, (na : Int) = p.N (j * 2) := ⟨(p.N (j * 2)).toNat, by omega⟩
              have hnb : na < p.bn := by omega
              have hnz : (na : Int) < (p.bn : Int) := by omega
              obtain ⟨bb, eb, n0, n1, n2, n3⟩ := (H.out.l.below hS.out.old).at_ hnb
              subst eb
              have hnl := Pg.name_len HR.out hnb
              obtain ⟨ma, hma⟩ : ∃ na : Nat, (na : Int) = p.N (j * 2 + 1) := ⟨(p.N (j * 2 + 1)).toNat, by omega⟩
              have hmb : ma < p.bn := by omega
              have hmz : (ma : Int) < (p.bn : Int) := by omega
              obtain ⟨bb', eb, m0, m1, m2, m3⟩ := (H.out.l.below hS.out.old).at_ hmb
              obtain rfl : bb' = bb := by simpa using eb.symm
              clear eb
              have hml := Pg.name_len HR.out hmb
              have HT2 : Hid (TxIs (T3 ++ ⟨#[110, 101, 118, 101, 114, 32]⟩ ++ (p.B na).name ++ ⟨#[32]⟩ ++ (p.B ma).name ++ ⟨#[10]⟩) (Pg.cat (Pg.bLine p) p.bn ++ Pg.cat (Pg.oLine p) p.on ++ Pg.cat (Pg.nLine p) (j + 1))) := by
                have e1 : Pg.nLine p j = [110, 101, 118, 101, 114, 32] ++ (p.B na).name.data.toList ++ [32] ++ (p.B ma).name.data.toList ++ [10] := by
                  unfold Pg.nLine
                  rw [Pg.line3]
                  unfold Pg.nmAt
                  rw [← hna, ← hma]
                  rfl
                have := ((((hT.out.add ⟨#[110, 101, 118, 101, 114, 32]⟩).add (p.B na).name).add ⟨#[32]⟩).add (p.B ma).name).add ⟨#[10]⟩
                show TxIs _ _
                rw [Pg.cat, e1]
                simpa [List.append_assoc] using this
              have SD : Hid (∀ m, SpB p (some ⟨bb', 0, none⟩) lk fa fk (some ⟨b, 0, none⟩) wk w (wr.drewN m)) := fun m => hS.out.below (ndrewN (Below.refl _ _) m)
              rw [← hna] at c0
              rw [← hma] at c1
              have z1 : T3.size + 6 ≤ 9223372036854775807 := by omega
              have z2 : T3.size + 6 + (p.B na).name.size ≤ 9223372036854775807 := by omega
              have z3 : T3.size + 6 + (p.B na).name.size + 1 ≤ 9223372036854775807 := by omega
              have z4 : T3.size + 6 + (p.B na).name.size + 1 + (p.B ma).name.size ≤ 9223372036854775807 := by omega
              have z5 : T3.size + 6 + (p.B na).name.size + 1 + (p.B ma).name.size + 1 ≤ 9223372036854775807 := by omega
              clear hna hma hS hT ho
              go_wp2_with fail
              go_quiet (fail)
              go_wp2_with fail
              go_roundw
              case rel => exact ⟨j + 1, _, by omega, rfl, by go_num, HT2, SD.out _⟩
              case measure => simp [intOf]; omega
            · obtain rfl : j = p.nn := by omega
              have HEQ : Hid (T3 = Pg.text p) := by
                show _ = _
                rw [HTX.out]; exact hT.out.eq
              go_wp2_with fail
              go_ret
              exact ⟨by rw [← HEQ.out]; rfl, hS.out.old⟩
end Go.Proofs.YtiaeobocenanlaaDoor
