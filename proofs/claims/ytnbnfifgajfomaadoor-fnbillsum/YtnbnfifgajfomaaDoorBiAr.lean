/-
  Accounts: the program's runs.
-/
import Derived.Test.YtnbnfifgajfomaaDoorBiA
import Derived.Test.YtnbnfifgajfomaaDoorTbTab
import Derived.Deep.DeepCutAuto
namespace Go.Proofs.YtnbnfifgajfomaaDoor
open Go.RowKit Go.Deep

/-- What an entry ends with. -/
def EnEnd (ga : Nat) (la : Option Addr) (n cap B : Nat) (x : Bi.Ac) (k m : Int) (w0 : World) (e : Ending) (w' : World) : Prop :=
  (∃ ev c, e = .returned ev ∧ AsV ev c ∧ ((¬ Bi.EntOk k m ∧ c = 1) ∨ (Bi.EntOk k m ∧ ¬ (k = 3 → m ≤ x.c) ∧ c = 9)) ∧ Below B w0 w') ∨ (Bi.EntOk k m ∧ (k = 3 → m ≤ x.c) ∧ e = .returned .nilIface ∧ ∃ v', AcS ga la n cap B v' (Bi.stepA x k m) w0 w')
set_option maxRecDepth 100000 in
set_option maxHeartbeats 4000000 in
theorem aenter_any (ga : Nat) (la : Option Addr) (n cap B : Nat) (v : Value) (x : Bi.Ac) (N : Nat) (k m : Int) (w0 w : World) (h : AcS ga la n cap B v x w0 w) (hi : Bi.Inv x N) (hN : N ≤ 1000) :
    Calls Tryd.prog 67 #[.pointer (some ⟨ga, 0, none⟩), .agg #[.int .i64 k, .int .i64 m]] w (EnEnd ga la n cap B x k m w0) := by
  obtain ⟨W, hW⟩ : ∃ W, W = w.alloc (.cells #[.int .i64 k, .int .i64 m] 41) := ⟨_, rfl⟩
  have HS : Hid (AcS ga la n cap B v x w0 W) := by show AcS _ _ _ _ _ _ _ _ _; rw [hW]; exact h.below (nbel_alloc _ _)
  have HR : Hid (W.rowIs w.heap.size 41 2 (rowN [.int .i64 k, .int .i64 m])) := by show W.rowIs _ _ _ _; rw [hW]; exact rowN_alloc w _ _
  have HI := Lib.hid hi
  have HW := Lib.hid hW
  clear hW h hi
  go_enter Tryd.func67, Tryd.ntmps67
  go_wp2_with fail
  rw [← HW.out]
  clear HW
  refine (entryRight_any k m _).mono ?_
  rintro e w1 ⟨rfl, hb⟩
  have HS1 := Lib.hid (HS.out.below hb)
  obtain ⟨⟨r0, r1⟩, _⟩ := rowN2 (nrow_below HR.out hb)
  clear hb HS HR
  by_cases c1 : Bi.EntOk k m
  case neg =>
    rw [Bi.dB_ff c1]
    have HN := Lib.hid c1
    clear c1
    go_wp2_with fail
    go_ret
    exact Or.inl ⟨_, 1, rfl, Or.inr rfl, Or.inl ⟨HN.out, rfl⟩, HS1.out.bel⟩
  rw [Bi.dB_tt c1]
  have HC := Lib.hid c1
  obtain ⟨⟨k0, k1⟩, hm⟩ := c1
  by_cases e1 : k = 1
  · have d1 : (k == 1) = true := by simp [e1]
    have E1 := Lib.hid e1
    clear e1
    go_wp2_with fail
    refine (abill_any ga la n cap B v x N m w0 _ HS1.out HI.out hN hm).mono ?_
    rintro e w2 ⟨rfl, v', hS2⟩
    have HS2 := Lib.hid hS2
    clear hS2
    go_wp2_with fail
    go_ret
    exact Or.inr ⟨HC.out, (fun h => by rw [E1.out] at h; omega), rfl, v', by rw [E1.out, Bi.step1]; exact HS2.out⟩
  have d1 : (k == 1) = false := by simp [e1]
  by_cases e2 : k = 2
  · have d2 : (k == 2) = true := by simp [e2]
    have E2 := Lib.hid e2
    clear e2 e1
    go_wp2_with fail
    refine (apay_any ga la n cap B v x N m w0 _ HS1.out HI.out hN hm).mono ?_
    rintro e w2 ⟨rfl, v', hS2⟩
    have HS2 := Lib.hid hS2
    clear hS2
    go_wp2_with fail
    go_ret
    exact Or.inr ⟨HC.out, (fun h => by rw [E2.out] at h; omega), rfl, v', by rw [E2.out, Bi.step2]; exact HS2.out⟩
  have d2 : (k == 2) = false := by simp [e2]
  have e3 : k = 3 := by omega
  have d3 : (k == 3) = true := by simp [e3]
  have E3 := Lib.hid e3
  clear e3 e2 e1
  go_wp2_with fail
  refine (aback_any ga la n cap B v x N m w0 _ HS1.out HI.out hN hm).mono ?_
  rintro e w2 hE
  rcases hE with ⟨hle, rfl, hS2⟩ | ⟨hle, ⟨ev, rfl, hev⟩, hS2⟩
  · have HS2 := Lib.hid hS2
    have HL := Lib.hid hle
    clear hS2 hle
    go_wp2_with fail
    go_ret
    exact Or.inr ⟨HC.out, fun _ => HL.out, rfl, v, by rw [E3.out, Bi.step3]; exact HS2.out⟩
  · have HS2 := Lib.hid hS2
    have HL := Lib.hid hle
    have HEV := Lib.hid hev
    obtain ⟨y, rfl, hy⟩ := hev
    clear hS2 hle hy
    go_wp2_with fail
    go_ret
    obtain ⟨y', e', hy'⟩ := HEV.out
    exact Or.inl ⟨_, 9, rfl, Or.inl ⟨y', e', hy'⟩, Or.inr ⟨HC.out, (fun h => by have := HL.out; have := h E3.out; omega), rfl⟩, HS2.out.bel⟩
set_option maxRecDepth 100000 in
set_option maxHeartbeats 4000000 in
theorem atotal_any (la : Option Addr) (n cap : Nat) (E : Nat → Int) (k : Int) (w : World) (h : IsAt la (n * 2) E w) (hn : n ≤ 100) (hg : Bi.Good E n) :
    Calls Tryd.prog 48 #[.agg #[.slice la n cap], .int .i64 k] w fun e w' => e = .returned (.int .i64 (Bi.tot E k n)) ∧ Below w.heap.size w w' := by
  obtain ⟨W, hW⟩ : ∃ W, W = w.alloc (.cells #[.slice la n cap] 87) := ⟨_, rfl⟩
  have HB : Hid (Below w.heap.size w W) := by show Below _ _ _; rw [hW]; exact nbel_alloc _ _
  have H := Lib.hid h
  have HG := Lib.hid hg
  have HW := Lib.hid hW
  clear hW h hg
  go_enter Tryd.func48, Tryd.ntmps48
  go_wp2_with fail
  rw [← HW.out]
  clear HW
  go_loopw [5, 11] (fun sv iv wr => ∃ (i : Nat), i ≤ n ∧ iv = .int .i64 i ∧ sv = .int .i64 (Bi.tot E k i) ∧ Hid (Below w.heap.size w wr)) (fun _ iv _ => n - (intOf iv).toNat)
  case atStart => exact ⟨0, Nat.zero_le _, rfl, rfl, HB⟩
  case round =>
    obtain ⟨i, hi, rfl, rfl, hB⟩ := hrel
    have hs := Bi.tot_bd (E := E) (k := k) i (fun j hj => HG.out j (by omega))
    by_cases hlt : i < n
    · have hltz : (i : Int) < (n : Int) := by omega
      obtain ⟨b, rfl, q0, q1⟩ := (H.out.below hB.out).at2 hlt
      have hwb : b < wr.heap.size := World.block_lt_of_cell? _ _ q0
      have hm := (HG.out i hlt).1.2
      obtain ⟨S, hS⟩ : ∃ S, S = Bi.tot E k i := ⟨_, rfl⟩
      rw [← hS] at hs ⊢
      have hs0 := hs.1
      have hs1 : S ≤ 100000000000 := by omega
      obtain ⟨kk, hkk⟩ : ∃ kk, kk = E (i * 2) := ⟨_, rfl⟩
      obtain ⟨mm, hmm⟩ : ∃ mm, mm = E (i * 2 + 1) := ⟨_, rfl⟩
      rw [← hkk] at q0
      rw [← hmm] at q1 hm
      have HN : Hid (Bi.tot E k (i + 1) = if kk = k then S + mm else S) := by show (if E (i * 2) = k then Bi.tot E k i + E (i * 2 + 1) else Bi.tot E k i) = _; rw [hkk, hmm, hS]
      have HBV : Hid (Below w.heap.size w (wr.alloc (.cells #[.int .i64 kk, .int .i64 mm] 41))) := hB.out.alloc hB.out.size _
      clear hS hkk hmm hs hB
      by_cases c : kk = k
      · have d : (kk == k) = true := by simp [c]
        rw [if_pos c] at HN
        clear c
        go_wp2_with fail
        go_roundw
        case rel => exact ⟨i + 1, by omega, by go_num, by rw [HN.out], HBV⟩
        case measure => simp [intOf]; omega
      · have d : (kk == k) = false := by simp [c]
        rw [if_neg c] at HN
        clear c
        go_wp2_with fail
        go_roundw
        case rel => exact ⟨i + 1, by omega, by go_num, by rw [HN.out], HBV⟩
        case measure => simp [intOf]; omega
    · obtain rfl : i = n := by omega
      go_wp2_with fail
      go_ret
      exact ⟨rfl, hB.out⟩
set_option maxRecDepth 100000 in
set_option maxHeartbeats 1000000 in
theorem atooLong_any (la : Option Addr) (n cap : Nat) (w : World) :
    Calls Tryd.prog 66 #[.agg #[.slice la n cap]] w fun e w' => e = .returned (.bool (decide (100 < n))) ∧ Below w.heap.size w w' := by
  have HB := Lib.hid (nbel_alloc w (.cells #[.slice la n cap] 87))
  by_cases h : 100 < n
  · rw [decide_eq_true h]
    have hz : (100 : Int) < (n : Int) := by omega
    go_enter Tryd.func66, Tryd.ntmps66
    go_wp2_with fail
    go_ret
    exact ⟨rfl, HB.out⟩
  · rw [decide_eq_false h]
    have hz : ¬ (100 : Int) < (n : Int) := by omega
    go_enter Tryd.func66, Tryd.ntmps66
    go_wp2_with fail
    go_ret
    exact ⟨rfl, HB.out⟩
/-- What a run ends with. -/
def RnEnd (ga : Nat) (la : Option Addr) (n cap : Nat) (E : Nat → Int) (w0 : World) (e : Ending) (w' : World) : Prop :=
  (Bi.code E n ≠ 0 ∧ ∃ ev, e = .returned ev ∧ ErrIs ev (Bi.code E n) ∧ Below w0.heap.size w0 w') ∨ (n ≤ 100 ∧ Bi.Good E n ∧ e = .returned .nilIface ∧ ∃ v', AcS ga la n cap w0.heap.size v' (Bi.at_ E n) w0 w')
theorem asv_wrap {ev : Value} {c : Int} (h : AsV ev c) (s : ByteArray) : ErrIs (.iface 105 (.agg #[.string s, ev])) c := by
  rcases h with ⟨y, rfl, hy⟩ | rfl
  · exact ⟨_, rfl, AsF.more s y c hy⟩
  · exact ⟨_, rfl, AsF.one s c⟩
theorem asv_shape {ev : Value} {c : Int} (h : AsV ev c) : ∃ T y, ev = .iface T y := by
  rcases h with ⟨y, rfl, hy⟩ | rfl
  · exact ⟨_, _, rfl⟩
  · exact ⟨_, _, rfl⟩
set_option maxRecDepth 100000 in
set_option maxHeartbeats 4000000 in
theorem arun_any (ga : Nat) (la : Option Addr) (n cap : Nat) (E : Nat → Int) (v : Value) (w0 w : World) (h : AcS ga la n cap w0.heap.size v ⟨[], 0⟩ w0 w) (hE : IsAt la (n * 2) E w0) (hg : TabOk w0) :
    Calls Tryd.prog 46 #[.pointer (some ⟨ga, 0, none⟩)] w (RnEnd ga la n cap E w0) := by
  obtain ⟨⟨r0, r1, r2⟩, f0, f1, f2⟩ := rowN3 h.row
  have HS := Lib.hid h
  have H := Lib.hid hE
  have HG := Lib.hid hg
  clear h hE hg f0 f1 f2
  go_enter Tryd.func46, Tryd.ntmps46
  go_wp2_with fail
  refine (atooLong_any la n cap _).mono ?_
  rintro e w1 ⟨rfl, hb⟩
  have HS1 := Lib.hid (HS.out.below hb)
  clear hb HS r0 r1 r2
  obtain ⟨⟨r0, r1, r2⟩, f0, f1, f2⟩ := rowN3 HS1.out.row
  by_cases c0 : 100 < n
  · rw [decide_eq_true c0]
    have HC : Hid (Bi.code E n = 2) := Bi.code_big c0
    clear c0
    go_wp2_with fail
    go_ret
    exact Or.inl ⟨by rw [HC.out]; omega, _, rfl, by rw [HC.out]; exact errIs_one ⟨#[97, 32, 98, 111, 111, 107]⟩ 2, HS1.out.bel⟩
  rw [decide_eq_false c0]
  have hn : n ≤ 100 := by omega
  go_wp2_with fail
  clear r0 r1 r2 f0 f1 f2
  go_loopw [21] (fun iv wr => ∃ (i : Nat) (v : Value), i ≤ n ∧ iv = .int .i64 i ∧ Hid (Bi.Good E i) ∧ Hid (AcS ga la n cap w0.heap.size v (Bi.at_ E i) w0 wr)) (fun iv _ => n - (intOf iv).toNat)
  case atStart => exact ⟨0, v, Nat.zero_le _, rfl, fun j hj => absurd hj (Nat.not_lt_zero _), HS1⟩
  case round =>
    obtain ⟨i, v, hi, rfl, hGd, hS⟩ := hrel
    by_cases hlt : i < n
    · have hltz : (i : Int) < (n : Int) := by omega
      obtain ⟨b, rfl, q0, q1⟩ := (H.out.below hS.out.bel).at2 hlt
      have hwb : b < wr.heap.size := World.block_lt_of_cell? _ _ q0
      obtain ⟨kk, hkk⟩ : ∃ kk, kk = E (i * 2) := ⟨_, rfl⟩
      obtain ⟨mm, hmm⟩ : ∃ mm, mm = E (i * 2 + 1) := ⟨_, rfl⟩
      rw [← hkk] at q0
      rw [← hmm] at q1
      have HSV : Hid (AcS ga (some ⟨b, 0, none⟩) n cap w0.heap.size v (Bi.at_ E i) w0 (wr.alloc (.cells #[.int .i64 kk, .int .i64 mm] 41))) := hS.out.below (nbel_alloc _ _)
      have HNX : Hid (Bi.at_ E (i + 1) = Bi.stepA (Bi.at_ E i) kk mm) := by show _ = _; rw [hkk, hmm]; rfl
      have HOA : Hid (Bi.OkAt E i ↔ (Bi.EntOk kk mm ∧ (kk = 3 → mm ≤ (Bi.at_ E i).c))) := by show _ ↔ _; rw [hkk, hmm]; exact Iff.rfl
      have HCA : Hid ((¬ Bi.EntOk kk mm → Bi.codeAt E i = 1) ∧ (Bi.EntOk kk mm → Bi.codeAt E i = 9)) := by show _ ∧ _; rw [hkk, hmm]; exact ⟨Bi.codeAt_form, Bi.codeAt_state⟩
      clear hkk hmm hS
      go_wp2_with fail
      refine (aenter_any ga _ n cap _ v (Bi.at_ E i) i kk mm w0 _ HSV.out (Bi.inv_at i hGd.out) (by omega)).mono ?_
      rintro e w2 hEE
      rcases hEE with ⟨ev, c, rfl, hav, hcc, hB2⟩ | ⟨hok, h3, rfl, v', hS2⟩
      · obtain ⟨T, y, rfl⟩ := asv_shape hav
        have HAV := Lib.hid hav
        have HFI : Hid (Bi.code E n = c ∧ c ≠ 0) := by
          show _ ∧ _
          have hno : ¬ Bi.OkAt E i := by
            rw [HOA.out]
            rcases hcc with ⟨h, _⟩ | ⟨_, h, _⟩
            · exact fun k => h k.1
            · exact fun k => h k.2
          rw [Bi.code_first (by omega) ⟨hlt, hGd.out, hno⟩]
          rcases hcc with ⟨h, rfl⟩ | ⟨h, _, rfl⟩
          · exact ⟨HCA.out.1 h, by omega⟩
          · exact ⟨HCA.out.2 h, by omega⟩
        have HB2 := Lib.hid hB2
        clear hav hcc hB2 HSV HNX HOA HCA
        go_wp2_with fail
        refine (itoaS_any i (by omega) _ (tab_below HG.out HB2.out)).mono ?_
        rintro e w3 ⟨⟨s, rfl, hsz⟩, hb⟩
        have HB3 : Hid (Below w0.heap.size w0 w3) := HB2.out.trans (hb.mono HB2.out.size)
        clear hb
        go_wp2_with fail
        go_ret
        exact Or.inl ⟨by rw [HFI.out.1]; exact HFI.out.2, _, rfl, by rw [HFI.out.1]; exact asv_wrap HAV.out _, HB3.out⟩
      · have HG2 : Hid (Bi.Good E (i + 1)) := fun j hj => by
          by_cases e : j = i
          · rw [e]; exact HOA.out.2 ⟨hok, h3⟩
          · exact hGd.out j (by omega)
        have HS2 : Hid (AcS ga (some ⟨b, 0, none⟩) n cap w0.heap.size v' (Bi.at_ E (i + 1)) w0 w2) := by show AcS _ _ _ _ _ _ _ _ _; rw [HNX.out]; exact hS2
        clear hok h3 hS2 HSV HNX HOA HCA
        go_wp2_with fail
        go_roundw
        case rel => exact ⟨i + 1, v', by omega, by go_num, HG2, HS2⟩
        case measure => simp [intOf]; omega
    · obtain rfl : i = n := by omega
      go_wp2_with fail
      go_ret
      exact Or.inr ⟨hn, hGd.out, rfl, v, hS.out⟩
/-- An account, told. -/
def AcEnd (B : Nat) (E : Nat → Int) (n : Nat) (e : Ending) (W : World) : Prop := ∃ a c, e = .returned (acV (Bi.ansC E n) (Bi.ansP E n) (Bi.code E n) (Bi.ansO E n).length a c) ∧ QsOwn B (Bi.ansO E n).length a c (qf (Bi.ansO E n)) W
theorem ac4 {W : World} {g : Nat} {T : TypeId} {a0 a1 a2 a3 : Value} (h : W.rowIs g T 4 (rowN [a0, a1, a2, a3])) (v0 v1 v2 v3 : Value) : ((((W.setCell ⟨g, 0, none⟩ v0).setCell ⟨g, 1, none⟩ v1).setCell ⟨g, 2, none⟩ v2).setCell ⟨g, 3, none⟩ v3).rowIs g T 4 (rowN [v0, v1, v2, v3]) :=
  rowN_put (rowN_put (rowN_put (rowN_put h 0 v0 (by simp)) 1 v1 (by simp)) 2 v2 (by simp)) 3 v3 (by simp)
theorem ac4b {W w : World} {g B : Nat} (h : Below B w W) (hg : B ≤ g) (v0 v1 v2 v3 : Value) : Below B w ((((W.setCell ⟨g, 0, none⟩ v0).setCell ⟨g, 1, none⟩ v1).setCell ⟨g, 2, none⟩ v2).setCell ⟨g, 3, none⟩ v3) :=
  (((h.setCell (p := ⟨g, 0, none⟩) hg _).setCell (p := ⟨g, 1, none⟩) hg _).setCell (p := ⟨g, 2, none⟩) hg _).setCell (p := ⟨g, 3, none⟩) hg _
theorem ac4o {W : World} {g j : Nat} (h : j ≠ g) (v0 v1 v2 v3 : Value) : ((((W.setCell ⟨g, 0, none⟩ v0).setCell ⟨g, 1, none⟩ v1).setCell ⟨g, 2, none⟩ v2).setCell ⟨g, 3, none⟩ v3).heap[j]? = W.heap[j]? := by
  repeat rw [bihs _ _ _ h]
theorem AcS.low {ga : Nat} {la : Option Addr} {n cap B B' : Nat} {v : Value} {x : Bi.Ac} {w w0 W : World} (h : AcS ga la n cap B v x w0 W) (hb : Below B' w w0) (hB : B' ≤ B) : AcS ga la n cap B' v x w W :=
  ⟨h.row, h.q.low hB, hb.trans (h.bel.mono hB), Nat.le_trans hB h.lo⟩
/-- The answer's variable, whatever it holds. -/
def ResV (g : Nat) (V : World) : Prop := ∃ a b c d, V.rowIs g 38 4 (rowN [a, b, c, d])
theorem ResV.below {g : Nat} {V V' : World} (h : ResV g V) (hb : Below V.heap.size V V') : ResV g V' := by obtain ⟨a, b, c, d, h⟩ := h; exact ⟨a, b, c, d, nrow_below h hb⟩
set_option maxRecDepth 100000 in
set_option maxHeartbeats 8000000 in
theorem implAcc_any (la : Option Addr) (n cap : Nat) (E : Nat → Int) (w : World) (hE : IsAt la (n * 2) E w) (hg : Et w ∧ TabOk w) :
    Calls Tryd.prog 15 #[.slice la n cap] w fun e w' => AcEnd w.heap.size E n e w' ∧ Below w.heap.size w w' := by
  obtain ⟨W, hW⟩ : ∃ W, W = (w.alloc (.cells #[.slice none 0 0, .int .i64 0, .int .i64 0, .int .i64 0] 38)).alloc (.cells #[.slice la n cap, .slice none 0 0, .int .i64 0] 89) := ⟨_, rfl⟩
  obtain ⟨W0, hW0⟩ : ∃ W0, W0 = w.alloc (.cells #[.slice none 0 0, .int .i64 0, .int .i64 0, .int .i64 0] 38) := ⟨_, rfl⟩
  have BW0 : Hid (Below w.heap.size w W0) := by show Below _ _ _; rw [hW0]; exact nbel_alloc _ _
  have HZ0 : Hid (W0.heap.size = w.heap.size + 1) := by show _ = _; rw [hW0]; simp
  have HR00 : Hid (W0.rowIs w.heap.size 38 4 (rowN [.slice none 0 0, .int .i64 0, .int .i64 0, .int .i64 0])) := by show W0.rowIs _ _ _ _; rw [hW0]; exact rowN_alloc w _ _
  have HS0 : Hid (AcS (w.heap.size + 1) la n cap W0.heap.size (.slice none 0 0) ⟨[], 0⟩ W0 W) := by
    show AcS _ _ _ _ _ _ _ _ _
    rw [hW, ← hW0]
    exact ⟨rowN_alloc' HZ0.out _ _, OwnQ.nil _ _, nbel_alloc _ _, by rw [HZ0.out]; omega⟩
  have H := Lib.hid hE
  have HG := Lib.hid hg
  have HW := Lib.hid hW
  clear hW hW0 hE hg
  go_enter Tryd.func15, Tryd.ntmps15
  go_wp2_with fail
  rw [← HW.out]
  clear HW
  refine (arun_any (w.heap.size + 1) la n cap E _ W0 _ HS0.out (H.out.below BW0.out) (tab_below HG.out.2 BW0.out)).mono ?_
  rintro e w1 hEE
  clear HS0
  rcases hEE with ⟨hc, ev, rfl, hev, hB⟩ | ⟨hn, hGd, rfl, v', hS2⟩
  · have HE : Hid (Bi.ansO E n = [] ∧ Bi.ansC E n = 0 ∧ Bi.ansP E n = 0) := by show _ ∧ _ ∧ _; unfold Bi.ansO Bi.ansC Bi.ansP; rw [if_neg hc, if_neg hc, if_neg hc]; exact ⟨rfl, rfl, rfl⟩
    obtain ⟨c, hcd⟩ : ∃ c, c = Bi.code E n := ⟨_, rfl⟩
    rw [← hcd] at hev
    have HCD := Lib.hid hcd
    obtain ⟨y, rfl, hy⟩ := hev
    have HY := Lib.hid hy
    have HB : Hid (Below w.heap.size w w1) := BW0.out.trans (hB.mono BW0.out.size)
    have HR1 := Lib.hid (nrow_below HR00.out hB)
    clear hc hcd hB hy
    go_wp2_with fail
    refine (codeOf_any y c HY.out _ (HG.out.1.below HB.out)).mono ?_
    rintro e w2 ⟨rfl, hb⟩
    have HR2 := nrow_below HR1.out hb
    have HB2 : Hid (Below w.heap.size w w2) := HB.out.trans (hb.mono HB.out.size)
    obtain ⟨⟨o0, o1, o2, o3⟩, z0, z1, z2, z3⟩ := rowN4 HR2
    have hol := HR2.lt
    have zr := Lib.hid (ac4 HR2 (.slice none 0 0) (.int .i64 0) (.int .i64 0) (.int .i64 c))
    have zb := Lib.hid (ac4b HB2.out (Nat.le_refl _) (.slice none 0 0) (.int .i64 0) (.int .i64 0) (.int .i64 c))
    clear hb HR2 HR1 HB
    go_wp2_with fail
    refine bodyPost_ret (v := acV 0 0 c 0 none 0) ?_ rfl ⟨⟨none, 0, by rw [HE.out.1, HE.out.2.1, HE.out.2.2, ← HCD.out]; rfl, by rw [HE.out.1]; exact Or.inl ⟨rfl, rfl, rfl⟩⟩, zb.out⟩
    obtain ⟨⟨c0, c1, c2, c3⟩, _⟩ := rowN4 zr.out
    simp only [results, Tryd.results15]
    simp [go_sem, c0, c1, c2, c3]
  · have hcd : Bi.code E n = 0 := Bi.code_good (by omega) hGd
    have HE : Hid (Bi.code E n = 0 ∧ Bi.ansO E n = (Bi.at_ E n).o ∧ Bi.ansC E n = (Bi.at_ E n).c ∧ Bi.ansP E n = Bi.sum (Bi.pd E) n) := by show _ ∧ _ ∧ _ ∧ _; unfold Bi.ansO Bi.ansC Bi.ansP; rw [if_pos hcd, if_pos hcd, if_pos hcd]; exact ⟨hcd, rfl, rfl, rfl⟩
    have ht2 := Bi.tot_bd (k := 2) n hGd
    have ht3 := Bi.tot_bd (k := 3) n hGd
    have htp := Bi.tot_pd (E := E) n
    have hnz : (n : Int) * 1000000000 ≤ 100000000000 := by omega
    have ht2b : Bi.tot E 2 n ≤ 100000000000 := by omega
    have ht3b : Bi.tot E 3 n ≤ 100000000000 := by omega
    have hpw : IntKind.i64.wrap (Bi.sum (Bi.pd E) n) = Bi.sum (Bi.pd E) n := biwrap (by omega) (by omega)
    have HS2 := Lib.hid (hS2.low BW0.out BW0.out.size)
    have HR2 : Hid (ResV w.heap.size w1) := ⟨_, _, _, _, nrow_below HR00.out hS2.bel⟩
    replace hGd := Lib.hid hGd
    obtain ⟨av, cv, rfl, _⟩ := hS2.q.shape
    clear hcd hS2
    go_wp2_with fail
    refine wp_region_held_drew (S := fun V => AcS (w.heap.size + 1) la n cap w.heap.size (.slice av (Bi.at_ E n).o.length cv) (Bi.at_ E n) w V ∧ ResV w.heap.size V) (by kernel_rfl) ⟨HS2.out.below (Below.refl _ _).drew, HR2.out.below (Below.refl _ _).drew⟩ (fun hHeld => ?_)
    clear HS2 HR2
    refine take_do (i := 0) (v := (.pointer (some ⟨w.heap.size + 1, 1, none⟩))) rfl (by kernel_rfl) (by kernel_rfl) (by kernel_rfl) (fun _ _ _ h => h) (by rfl) ?_ (by assumption) ?_
    · intro w hSw
      go_simp
    simp only [Act.put, List.setIfInBounds_toArray, List.set_cons_zero, List.set_cons_succ]
    refine take_do (i := 1) (v := (.slice av (Bi.at_ E n).o.length cv)) rfl (by kernel_rfl) (by kernel_rfl) (by kernel_rfl) (fun _ _ _ h => h) (by rfl) ?_ (by assumption) ?_
    · intro w hSw
      obtain ⟨⟨a0, a1, a2⟩, _⟩ := rowN3 hSw.1.row
      go_simp
    simp only [Act.put, List.setIfInBounds_toArray, List.set_cons_zero, List.set_cons_succ]
    refine take_do (i := 2) (v := (.pointer (some ⟨w.heap.size + 1, 2, none⟩))) rfl (by kernel_rfl) (by kernel_rfl) (by kernel_rfl) (fun _ _ _ h => h) (by rfl) ?_ (by assumption) ?_
    · intro w hSw
      go_simp
    simp only [Act.put, List.setIfInBounds_toArray, List.set_cons_zero, List.set_cons_succ]
    refine take_do (i := 3) (v := (.int .i64 (Bi.at_ E n).c)) rfl (by kernel_rfl) (by kernel_rfl) (by kernel_rfl) (fun _ _ _ h => h) (by rfl) ?_ (by assumption) ?_
    · intro w hSw
      obtain ⟨⟨a0, a1, a2⟩, _⟩ := rowN3 hSw.1.row
      go_simp
    simp only [Act.put, List.setIfInBounds_toArray, List.set_cons_zero, List.set_cons_succ]
    refine take_do (i := 4) (v := (.pointer (some ⟨w.heap.size + 1, 0, none⟩))) rfl (by kernel_rfl) (by kernel_rfl) (by kernel_rfl) (fun _ _ _ h => h) (by rfl) ?_ (by assumption) ?_
    · intro w hSw
      go_simp
    simp only [Act.put, List.setIfInBounds_toArray, List.set_cons_zero, List.set_cons_succ]
    refine take_do (i := 5) (v := (.agg #[.slice la n cap])) rfl (by kernel_rfl) (by kernel_rfl) (by kernel_rfl) (fun _ _ _ h => h) (by rfl) ?_ (by assumption) ?_
    · intro w hSw
      obtain ⟨⟨a0, a1, a2⟩, _⟩ := rowN3 hSw.1.row
      go_simp
    simp only [Act.put, List.setIfInBounds_toArray, List.set_cons_zero, List.set_cons_succ]
    refine take_do (i := 7) (v := (.pointer (some ⟨w.heap.size + 1, 0, none⟩))) rfl (by kernel_rfl) (by kernel_rfl) (by kernel_rfl) (fun _ _ _ h => h) (by rfl) ?_ (by assumption) ?_
    · intro w hSw
      go_simp
    simp only [Act.put, List.setIfInBounds_toArray, List.set_cons_zero, List.set_cons_succ]
    refine take_do (i := 8) (v := (.agg #[.slice la n cap])) rfl (by kernel_rfl) (by kernel_rfl) (by kernel_rfl) (fun _ _ _ h => h) (by rfl) ?_ (by assumption) ?_
    · intro w hSw
      obtain ⟨⟨a0, a1, a2⟩, _⟩ := rowN3 hSw.1.row
      go_simp
    simp only [Act.put, List.setIfInBounds_toArray, List.set_cons_zero, List.set_cons_succ]
    refine take_call (i := 6) rfl (by kernel_rfl) (fun K2 hK => ?_)
    go_simp
    refine (atotal_any la n cap E 2 _ (H.out.below hHeld.1.bel) hn hGd.out).mono ?_
    rintro e w7 ⟨rfl, hb⟩
    go_wp2_with fail
    refine hK.out _ _ ⟨hHeld.1.below hb, hHeld.2.below hb⟩ (fun hHeld2 => ?_)
    clear hK hHeld hb
    have hHeld := hHeld2
    clear hHeld2
    refine take_call (i := 9) rfl (by kernel_rfl) (fun K2 hK => ?_)
    go_simp
    refine (atotal_any la n cap E 3 _ (H.out.below hHeld.1.bel) hn hGd.out).mono ?_
    rintro e w7 ⟨rfl, hb⟩
    go_wp2_with fail
    refine hK.out _ _ ⟨hHeld.1.below hb, hHeld.2.below hb⟩ (fun hHeld2 => ?_)
    clear hK hHeld hb
    have hHeld := hHeld2
    clear hHeld2
    refine take_do (i := 10) (v := (.int .i64 (Bi.sum (Bi.pd E) n))) rfl (by kernel_rfl) (by kernel_rfl) (by kernel_rfl) (fun _ _ _ h => h) (by rfl) ?_ (by assumption) ?_
    · intro w hSw
      go_simp
    simp only [Act.put, List.setIfInBounds_toArray, List.set_cons_zero, List.set_cons_succ]
    refine take_do (i := 11) (v := (.agg #[.slice av (Bi.at_ E n).o.length cv, .int .i64 (Bi.at_ E n).c, .int .i64 (Bi.sum (Bi.pd E) n), .int .i64 0])) rfl (by kernel_rfl) (by kernel_rfl) (by kernel_rfl) (fun _ _ _ h => h) (by rfl) ?_ (by assumption) ?_
    · intro w hSw
      go_simp
    simp only [Act.put, List.setIfInBounds_toArray, List.set_cons_zero, List.set_cons_succ]
    obtain ⟨u0, u1, u2, u3, hR⟩ := hHeld.2
    obtain ⟨⟨o0, o1, o2, o3⟩, z0, z1, z2, z3⟩ := rowN4 hR
    have hol := hR.lt
    have zr := ac4 hR (.slice av (Bi.at_ E n).o.length cv) (.int .i64 (Bi.at_ E n).c) (.int .i64 (Bi.sum (Bi.pd E) n)) (.int .i64 0)
    have zb := ac4b hHeld.1.bel (Nat.le_refl _) (.slice av (Bi.at_ E n).o.length cv) (.int .i64 (Bi.at_ E n).c) (.int .i64 (Bi.sum (Bi.pd E) n)) (.int .i64 0)
    have zo := fun (j : Nat) (hj : j ≠ w.heap.size) => ac4o (W := w7) hj (.slice av (Bi.at_ E n).o.length cv) (.int .i64 (Bi.at_ E n).c) (.int .i64 (Bi.sum (Bi.pd E) n)) (.int .i64 0)
    have hqn : (Value.slice av (Bi.at_ E n).o.length cv).ownBlock ≠ some w.heap.size := hHeld.1.q.ne hR (by decide)
    refine take_call (i := 12) rfl (by kernel_rfl) (fun K2 hK => ?_)
    go_simp
    clear o0 o1 o2 o3 z0 z1 z2 z3
    generalize (((w7.setCell ⟨w.heap.size, 0, none⟩ (.slice av (Bi.at_ E n).o.length cv)).setCell ⟨w.heap.size, 1, none⟩ (.int .i64 (Bi.at_ E n).c)).setCell ⟨w.heap.size, 2, none⟩ (.int .i64 (Bi.sum (Bi.pd E) n))).setCell ⟨w.heap.size, 3, none⟩ (.int .i64 0) = Y at zr zb zo ⊢
    have hq9 : OwnQ w.heap.size (.slice av (Bi.at_ E n).o.length cv) (Bi.at_ E n).o Y := hHeld.1.q.same (fun j hj _ => zo j (fun e => hqn (by rw [hj, e])))
    refine hK.out _ _ ⟨⟨hHeld.1.row.of_block (zo _ (by omega)), hq9, zb, hHeld.1.lo⟩, _, _, _, _, zr⟩ (fun _ => wpAnyH_done (by kernel_rfl) ?_ _)
    have ZR := Lib.hid zr
    have ZB := Lib.hid zb
    have ZQ := Lib.hid hq9
    clear hK hHeld zr zb zo hq9 hR hqn
    go_wp2_with fail
    obtain ⟨a9, c9, e9, h9⟩ := ZQ.out.qs
    cases e9
    refine bodyPost_ret (v := acV (Bi.at_ E n).c (Bi.sum (Bi.pd E) n) 0 (Bi.at_ E n).o.length av cv) ?_ rfl ⟨⟨av, cv, by rw [HE.out.1, HE.out.2.1, HE.out.2.2.1, HE.out.2.2.2], by rw [HE.out.2.1]; exact h9⟩, ZB.out⟩
    obtain ⟨⟨c0, c1, c2, c3⟩, _⟩ := rowN4 ZR.out
    simp only [results, Tryd.results15]
    simp [go_sem, c0, c1, c2, c3]
end Go.Proofs.YtnbnfifgajfomaaDoor
