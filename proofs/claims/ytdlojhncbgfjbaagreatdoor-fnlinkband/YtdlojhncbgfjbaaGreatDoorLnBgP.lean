/-
  Joined: LnLawP.
-/
import Derived.Test.YtdlojhncbgfjbaaGreatDoorLnBgB
namespace Go.Proofs.YtdlojhncbgfjbaaGreatDoor
open Go Go.RowKit Go.Deep

namespace Ln
theorem took {b : Int} {f : Nat → Int} {n i : Nat} (hi : i < n) (h : tk b f (i + 1) = tk b f i ++ [f (i * 2 + 1)]) : (tk b f i).length < (tk b f n).length ∧ (tk b f n).getD (tk b f i).length 0 = f (i * 2 + 1) := by
  obtain ⟨h1, h2⟩ := tk_mono b f (i + 1) n (by omega)
  have e : (tk b f (i + 1)).length = (tk b f i).length + 1 := by rw [h]; simp
  refine ⟨by omega, ?_⟩
  rw [h2 _ (by omega), h, List.getD_eq_getElem?_getD]; simp
theorem small {u b : Int} {f : Nat → Int} (hf : Fit u b) {n : Nat} (hn : n ≤ 200) (he : EvsOk f n) {i : Nat} (hi : i ≤ n) : -1000000 ≤ lastv (tk b f i) ∧ lastv (tk b f i) ≤ 1000000 ∧ (tk b f i).length ≤ 200 := by
  have h := run_inv hf i (by omega) (fun j hj => he j (by omega))
  have h1 := h.hL
  have h2 := h.hk
  rw [h.hl] at h1
  omega
end Ln
theorem lndrewN {B : Nat} {w W : World} (h : Below B w W) (n : Nat) : Below B w (W.drewN n) := ⟨h.os, h.tape, h.output, h.size, h.block⟩
set_option maxRecDepth 100000 in
set_option maxHeartbeats 16000000 in
theorem linkBand_fn (w : World) (a : Option Addr) (len cap : Nat) (h : Bytes a len w) (hl : len ≤ 9223372036854775807) (hg : LnG w) :
    Calls Tryz.prog 4 #[.slice a len cap] w fun e w' => e = .returned (.bool true) ∧ Below w.heap.size w w' := by
  have H := Lib.hid h
  have HG := Lib.hid hg
  clear h hg
  by_cases hbig : (1048576 : Int) < (len : Int)
  · go_enter Tryz.func4, Tryz.ntmps4
    go_wp2_with fail
    go_ret
    exact ⟨rfl, Below.refl _ _⟩
  obtain ⟨i0, hi0, hz0, hz1, hz2⟩ := info_parts leinfo
  go_enter Tryz.func4, Tryz.ntmps4
  go_wp2_with fail
  refine (drawLR_any a len cap _ H.out (by omega)).mono ?_
  rintro e w1 ⟨⟨u, b, la, n, c, f, rfl, hn4, hq, hat, hbb⟩, hb⟩
  have HI : Hid (IsIn la (n * 2) f w1) := hq.in_
  have HB : Hid (Below w.heap.size w w1) := hb
  have HBB9 : Hid (-1000 ≤ b ∧ b ≤ 1000) := hbb
  clear hb hq hat hbig hl H hbb
  go_wp2_with fail
  refine (specRun_any u b la n c f _ HI.out (by omega)).mono ?_
  rintro e w2 ⟨hE, hb⟩
  obtain ⟨pa, pk, pb, pl, rfl, _, _, _⟩ := hE
  obtain ⟨cd, hcd⟩ : ∃ x, x = Ln.lcode u b f n := ⟨_, rfl⟩
  obtain ⟨S0, hS0⟩ : ∃ x, x = Ln.lst u b f n := ⟨_, rfl⟩
  obtain ⟨M0, hM0⟩ : ∃ x, x = Ln.lma u b f n := ⟨_, rfl⟩
  rw [← hcd, ← hS0, ← hM0]
  have HCD := Lib.hid hcd
  have HS0 := Lib.hid hS0
  have hb2 := hb.trans ((nbel_alloc w2 (.cells #[.int .i64 S0.unit, .int .i64 S0.band, .bool S0.seen, .int .i64 S0.last, .int .i64 S0.next, .slice pa S0.wait.length pk, .int .i64 S0.drops, .int .i64 M0.seq, .slice pb M0.notes.length pl, .int .i64 M0.gaps, .int .i64 cd] 32)).mono hb.size)
  have HBw : Hid (Below w.heap.size w (w2.alloc (.cells #[.int .i64 S0.unit, .int .i64 S0.band, .bool S0.seen, .int .i64 S0.last, .int .i64 S0.next, .slice pa S0.wait.length pk, .int .i64 S0.drops, .int .i64 M0.seq, .slice pb M0.notes.length pl, .int .i64 M0.gaps, .int .i64 cd] 32))) := HB.out.trans (hb2.mono HB.out.size)
  have HI2 : Hid (IsIn la (n * 2) f (w2.alloc (.cells #[.int .i64 S0.unit, .int .i64 S0.band, .bool S0.seen, .int .i64 S0.last, .int .i64 S0.next, .slice pa S0.wait.length pk, .int .i64 S0.drops, .int .i64 M0.seq, .slice pb M0.notes.length pl, .int .i64 M0.gaps, .int .i64 cd] 32))) := HI.out.below hb2
  have HR2 : Hid (World.rowIs (w2.alloc (.cells #[.int .i64 S0.unit, .int .i64 S0.band, .bool S0.seen, .int .i64 S0.last, .int .i64 S0.next, .slice pa S0.wait.length pk, .int .i64 S0.drops, .int .i64 M0.seq, .slice pb M0.notes.length pl, .int .i64 M0.gaps, .int .i64 cd] 32)) w2.heap.size 32 11 (rowN (loL S0 M0 pa pk pb pl cd))) := rowN_alloc w2 (loL S0 M0 pa pk pb pl cd) _
  clear hb hb2 HI HB hcd hS0 hM0
  by_cases hc : ¬ cd = 0
  · have hyb : (cd != 0) = true := by simpa using hc
    obtain ⟨⟨o0, o1, o2, o3, o4, o5, o6, o7, o8, o9, o10⟩, _⟩ := rowN11 HR2.out
    go_wp2_with fail
    go_ret
    exact ⟨rfl, HBw.out⟩
  replace hc := Decidable.not_not.1 hc
  subst hc
  by_cases hd : ¬ S0.drops = 0
  · have hyb : (S0.drops != 0) = true := by simpa using hd
    obtain ⟨⟨o0, o1, o2, o3, o4, o5, o6, o7, o8, o9, o10⟩, _⟩ := rowN11 HR2.out
    go_wp2_with fail
    go_ret
    exact ⟨rfl, HBw.out⟩
  replace hd := Decidable.not_not.1 hd
  have hyb : (S0.drops != 0) = false := by simpa using hd
  have HD := Lib.hid hd
  clear hd
  by_cases hn : ¬ n < 200
  · have hn2 : (200 : Int) ≤ (n : Int) := by omega
    obtain ⟨⟨o0, o1, o2, o3, o4, o5, o6, o7, o8, o9, o10⟩, _⟩ := rowN11 HR2.out
    go_wp2_with fail
    go_ret
    exact ⟨rfl, HBw.out⟩
  replace hn := Decidable.not_not.1 hn
  have hn2 : ¬ (200 : Int) ≤ (n : Int) := by omega
  obtain ⟨⟨o0, o1, o2, o3, o4, o5, o6, o7, o8, o9, o10⟩, _⟩ := rowN11 HR2.out
  obtain ⟨L, hL⟩ : ∃ L, L = Ln.nof n f := ⟨_, rfl⟩
  have hLn : n = L.length := by rw [hL, Ln.nof_len]
  subst hLn
  have HEQ : Hid (∀ j, j < L.length * 2 → Ln.fl L j = f j) := fun j hj => by rw [hL]; exact Ln.nof_fl _ f j hj
  have HL : Hid (IsIn la (L.length * 2) (Ln.fl L) (w2.alloc (.cells #[.int .i64 S0.unit, .int .i64 S0.band, .bool S0.seen, .int .i64 S0.last, .int .i64 S0.next, .slice pa S0.wait.length pk, .int .i64 S0.drops, .int .i64 M0.seq, .slice pb M0.notes.length pl, .int .i64 M0.gaps, .int .i64 0] 32))) := HI2.out.congr (fun j hj => (HEQ.out j hj).symm)
  clear hL
  have HO : Hid (((w2.alloc (.cells #[.int .i64 S0.unit, .int .i64 S0.band, .bool S0.seen, .int .i64 S0.last, .int .i64 S0.next, .slice pa S0.wait.length pk, .int .i64 S0.drops, .int .i64 M0.seq, .slice pb M0.notes.length pl, .int .i64 M0.gaps, .int .i64 0] 32)).alloc (.cells #[] 35)).ownsRow (w2.heap.size + 1) 35 2 (.slice (some ⟨w2.heap.size + 1, 0, none⟩) 0 0) 0 (nvs [])) := by
    have hz : (w2.alloc (.cells #[.int .i64 S0.unit, .int .i64 S0.band, .bool S0.seen, .int .i64 S0.last, .int .i64 S0.next, .slice pa S0.wait.length pk, .int .i64 S0.drops, .int .i64 M0.seq, .slice pb M0.notes.length pl, .int .i64 M0.gaps, .int .i64 0] 32)).heap.size = w2.heap.size + 1 := by simp
    have := World.ownsRow_made (e := 35) (size := 2) (w2.alloc (.cells #[.int .i64 S0.unit, .int .i64 S0.band, .bool S0.seen, .int .i64 S0.last, .int .i64 S0.next, .slice pa S0.wait.length pk, .int .i64 S0.drops, .int .i64 M0.seq, .slice pb M0.notes.length pl, .int .i64 M0.gaps, .int .i64 0] 32)) #[] 0 (Nat.le_refl _) (Nat.zero_le _) rfl
    rw [hz] at this
    exact this
  have HM : Hid (IsIn la (L.length * 2) (Ln.fl L) ((w2.alloc (.cells #[.int .i64 S0.unit, .int .i64 S0.band, .bool S0.seen, .int .i64 S0.last, .int .i64 S0.next, .slice pa S0.wait.length pk, .int .i64 S0.drops, .int .i64 M0.seq, .slice pb M0.notes.length pl, .int .i64 M0.gaps, .int .i64 0] 32)).alloc (.cells #[] 35))) := HL.out.below (nbel_alloc _ _)
  have HN4 : Hid (L.length ≤ 400) := hn4
  go_wp2_with (at_builtin; refine wpList_append_ns (l := []) (m := L) rfl _ _ 23 rfl 35 i0 (.agg #[.int .i64 0, .int .i64 0]) 16 Tryz.underlying23 hi0 hz0 hz1 hz2 rfl (w2.heap.size + 1) _ rfl HO.out la c rfl HM.out (by have := HN4.out; unfold maxLen; simp; omega) (by have := HN4.out; simp; omega) (by simp) ?_)
  intro v1 y1 hown hgrow
  have hown1 : y1.ownsRow (w2.heap.size + 1) 35 2 v1 L.length (nvs L) := by simpa using hown
  have HB1 : Hid (Below (w2.heap.size + 1) (w2.alloc (.cells #[.int .i64 S0.unit, .int .i64 S0.band, .bool S0.seen, .int .i64 S0.last, .int .i64 S0.next, .slice pa S0.wait.length pk, .int .i64 S0.drops, .int .i64 M0.seq, .slice pb M0.notes.length pl, .int .i64 M0.gaps, .int .i64 0] 32)) y1) := lnbelow_grown ((Below.refl _ _).alloc (by simp) _) (by simp) hgrow (fun k e => (World.ownsRow.lt HO.out k e).1)
  obtain ⟨la1, lc1, rfl, _, _⟩ := own_ns hown1
  have hsz1 : (w2.heap.size + 1) ≤ y1.heap.size := Nat.le_trans (by simp) HB1.out.size
  have HO1 : Hid ((y1.alloc (.cells #[.int .i64 2, .int .i64 0] 35)).ownsRow (w2.heap.size + 1) 35 2 (.slice la1 L.length lc1) L.length (nvs L)) := hown1.alloc _
  have HM1 := Lib.hid (one_in y1 35 2 0)
  have HSZ1 := Lib.hid hsz1
  clear hown hown1 hgrow hsz1 HO HM o0 o1 o2 o3 o4 o5 o6 o7 o8 o9 o10 hyb
  go_wp2_with (at_builtin; refine wpList_append_ns (l := L) (m := [(2, 0)]) rfl _ _ 23 rfl 35 i0 (.agg #[.int .i64 0, .int .i64 0]) 16 Tryz.underlying23 hi0 hz0 hz1 hz2 rfl (w2.heap.size + 1) _ rfl HO1.out (some ⟨y1.heap.size, 0, none⟩) 1 rfl HM1.out (by have := HN4.out; unfold maxLen; simp; omega) (by have := HN4.out; simp; omega) (by have := HSZ1.out; simp; omega) ?_)
  intro v2 y2 hown hgrow
  have hown2 : y2.ownsRow (w2.heap.size + 1) 35 2 v2 (L ++ [(2, 0)]).length (nvs (L ++ [(2, 0)])) := by simpa using hown
  have HBB : Below (w2.heap.size + 1) (w2.alloc (.cells #[.int .i64 S0.unit, .int .i64 S0.band, .bool S0.seen, .int .i64 S0.last, .int .i64 S0.next, .slice pa S0.wait.length pk, .int .i64 S0.drops, .int .i64 M0.seq, .slice pb M0.notes.length pl, .int .i64 M0.gaps, .int .i64 0] 32)) y2 := lnbelow_grown (HB1.out.alloc HSZ1.out _) (by have := HSZ1.out; simp; omega) hgrow (fun k e => (World.ownsRow.lt HO1.out k e).1)
  have HB2 : Hid (Below w.heap.size w y2) := HBw.out.trans (HBB.mono (Nat.le_trans HBw.out.size (Nat.le_of_eq (by simp))))
  have HL2 : Hid (IsIn la (L.length * 2) (Ln.fl L) y2) := by
    have hz : (w2.alloc (.cells #[.int .i64 S0.unit, .int .i64 S0.band, .bool S0.seen, .int .i64 S0.last, .int .i64 S0.next, .slice pa S0.wait.length pk, .int .i64 S0.drops, .int .i64 M0.seq, .slice pb M0.notes.length pl, .int .i64 M0.gaps, .int .i64 0] 32)).heap.size = w2.heap.size + 1 := by simp
    exact HL.out.below (by rw [hz]; exact HBB)
  obtain ⟨la2, lc2, hv2, hq2, _⟩ := own_ns hown2
  have hlen : (L ++ [((2 : Int), (0 : Int))]).length = L.length + 1 := by simp
  rw [hlen] at hv2 hq2
  subst hv2
  obtain ⟨F, hF⟩ : ∃ F, F = Ln.fl (L ++ [(2, 0)]) := ⟨_, rfl⟩
  rw [← hF] at hq2
  have HQ2 : Hid (IsIn la2 ((L.length + 1) * 2) F y2) := hq2.in_
  have HF := Lib.hid hF
  clear hown hown2 hgrow HO1 HM1 HB1 HL HSZ1 hq2 HBB hlen hF
  go_wp2_with fail
  refine (implRun_any u b la2 (L.length + 1) lc2 F _ HQ2.out (HG.out.below HB2.out)).mono ?_
  rintro e w5 ⟨hE, hb⟩
  have hf := Ln.fin (u := u) (b := b) (f := f) (g := F) (n := L.length) HCD.out.symm (by omega) (fun j hj => by rw [HF.out, Ln.fl_app _ _ _ hj]; exact HEQ.out j hj) (by rw [HF.out, show L.length * 2 = L.length * 2 + 0 by omega, Ln.fl_app2]; rfl) (by rw [HF.out, Ln.fl_app2]; rfl)
  rw [hf.1] at hE
  have hfn := hf.2
  have HEV : Hid (Ln.Fit u b ∧ Ln.EvsOk (Ln.fl L) L.length) := ⟨(Ln.code_ok HCD.out.symm).2.1, (Ln.code_ok HCD.out.symm).2.2.same HEQ.out⟩
  clear hf
  obtain ⟨S, hS⟩ : ∃ x, x = Ln.lst u b F (L.length + 1) := ⟨_, rfl⟩
  obtain ⟨M, hM⟩ : ∃ x, x = Ln.lma u b F (L.length + 1) := ⟨_, rfl⟩
  rw [← hS, ← hM] at hE hfn
  rw [Ln.tk_same b (f := Ln.fl L) L.length (fun j hj => by rw [HF.out]; exact Ln.fl_app _ _ _ hj), ← HS0.out] at hfn
  have FN := Lib.hid hfn
  obtain ⟨a6, k6, b6, l6, rfl, ho1, ho2, _⟩ := hE
  obtain ⟨W5, hW5⟩ : ∃ Z, Z = w5.alloc (.cells #[.int .i64 S.unit, .int .i64 S.band, .bool S.seen, .int .i64 S.last, .int .i64 S.next, .slice a6 S.wait.length k6, .int .i64 S.drops, .int .i64 M.seq, .slice b6 M.notes.length l6, .int .i64 M.gaps, .int .i64 0] 32) := ⟨_, rfl⟩
  obtain ⟨s, hs⟩ : ∃ s, s = w5.heap.size := ⟨_, rfl⟩
  have ON : Hid (OnS s S M a6 k6 b6 l6 la L.length (Ln.fl L) w W5) := by
    show OnS _ _ _ _ _ _ _ _ _ _ _ _
    have hb5 := hb.trans ((nbel_alloc w5 (.cells #[.int .i64 S.unit, .int .i64 S.band, .bool S.seen, .int .i64 S.last, .int .i64 S.next, .slice a6 S.wait.length k6, .int .i64 S.drops, .int .i64 M.seq, .slice b6 M.notes.length l6, .int .i64 M.gaps, .int .i64 0] 32)).mono hb.size)
    rw [hW5, hs]
    exact ⟨rowN_alloc w5 (loL S M a6 k6 b6 l6 0) _, ho2.in_.below (nbel_alloc _ _), HL2.out.below hb5, HB2.out.trans (hb5.mono HB2.out.size)⟩
  have HW5 := Lib.hid hW5
  have HSS := Lib.hid hs
  clear hb hW5 hs hS hM hfn ho1 ho2 HL2 HQ2 HB2 HEQ HF HCD HS0
  go_wp2_with fail
  rw [← HW5.out, ← HSS.out]
  clear HW5 HSS
  have HV : Hid (M.gaps = 0 ∧ M.notes.length = (Ln.tk b (Ln.fl L) L.length).length ∧ ∀ i, i < (Ln.tk b (Ln.fl L) L.length).length → Ln.fl M.notes (i * 2) = i + 1 ∧ Ln.fl M.notes (i * 2 + 1) = (Ln.tk b (Ln.fl L) L.length).getD i 0) := FN.out.val HD.out
  have HN2 : Hid (L.length < 200) := hn
  clear FN HD
  go_loopw [8, 9, 10] (fun av lv iv wr => ∃ (i : Nat), i ≤ L.length ∧ iv = .int .i64 i ∧ av = .int .i64 (((Ln.tk b (Ln.fl L) i).length : Nat) : Int) ∧ lv = .int .i64 (Ln.lastv (Ln.tk b (Ln.fl L) i)) ∧ Hid (OnS s S M a6 k6 b6 l6 la L.length (Ln.fl L) w wr)) (fun _ _ iv _ => L.length - (intOf iv).toNat)
  case atStart => exact ⟨0, Nat.zero_le _, rfl, rfl, rfl, ON⟩
  case round =>
    obtain ⟨i, hi, rfl, rfl, rfl, hO⟩ := hrel
    clear ON
    have hLn : L.length ≤ 200 := by have := HN2.out; omega
    by_cases hlt : i < L.length
    · have hltz : (i : Int) < (L.length : Int) := by omega
      obtain ⟨g, o, rfl, c0, c1⟩ := hO.out.ev.at2 hlt
      have he := HEV.out.2 i hlt
      obtain ⟨p1, p2, p3⟩ := Ln.small HEV.out.1 hLn HEV.out.2 hi
      obtain ⟨kk, hkk⟩ : ∃ x, x = Ln.fl L (i * 2) := ⟨_, rfl⟩
      obtain ⟨vv, hvv⟩ : ∃ x, x = Ln.fl L (i * 2 + 1) := ⟨_, rfl⟩
      obtain ⟨Q, hQ⟩ : ∃ x, x = (Ln.tk b (Ln.fl L) i).length := ⟨_, rfl⟩
      obtain ⟨p, hp⟩ : ∃ x, x = Ln.lastv (Ln.tk b (Ln.fl L) i) := ⟨_, rfl⟩
      rw [← hkk] at c0 he
      rw [← hvv] at c1 he
      rw [← hp] at p1 p2
      rw [← hQ] at p3
      rw [← hQ, ← hp]
      have HKK := Lib.hid hkk
      have HVV := Lib.hid hvv
      have HQ := Lib.hid hQ
      have HP := Lib.hid hp
      clear hkk hvv hQ hp
      by_cases hk : ¬ kk = 1
      · have hyk : (kk != 1) = true := by simpa using hk
        have HN : Hid (Ln.tk b (Ln.fl L) (i + 1) = Ln.tk b (Ln.fl L) i) := Ln.tk_no (fun z => hk (by rw [HKK.out]; exact z.1))
        clear he hk
        go_wp2_with fail
        go_roundw
        case rel => exact ⟨i + 1, by omega, by go_num, by rw [HN.out, ← HQ.out], by rw [HN.out, ← HP.out], hO⟩
        case measure => simp [intOf]; omega
      replace hk := Decidable.not_not.1 hk
      have hvb : -1000000 ≤ vv ∧ vv ≤ 1000000 := by rcases he with he | he <;> omega
      have hyk : (kk != 1) = false := by simpa using hk
      have HK1 : Hid (Ln.fl L (i * 2) = 1) := by show _ = _; rw [← HKK.out]; exact hk
      have hbb : -1000 ≤ b ∧ b ≤ 1000 := HBB9.out
      clear he hk
      by_cases hq0 : Q = 0
      · have HT : Hid (Ln.Tk b (Ln.tk b (Ln.fl L) i) (Ln.fl L (i * 2 + 1))) := fun z => z.1 (List.eq_nil_of_length_eq_zero (by rw [← HQ.out]; exact hq0))
        have hz0 : ¬ (0 : Int) < (Q : Int) := by omega
        clear hq0
        have HN : Hid (Ln.tk b (Ln.fl L) (i + 1) = Ln.tk b (Ln.fl L) i ++ [vv]) := by show _ = _; rw [HVV.out]; exact Ln.tk_yes HK1.out HT.out
        have HTK : Hid ((Ln.tk b (Ln.fl L) i).length < (Ln.tk b (Ln.fl L) L.length).length ∧ (Ln.tk b (Ln.fl L) L.length).getD (Ln.tk b (Ln.fl L) i).length 0 = Ln.fl L (i * 2 + 1)) := Ln.took hlt (by rw [HN.out, HVV.out])
        have hq1 : Q < M.notes.length := by have := HTK.out.1; have := HV.out.2.1; have := HQ.out; omega
        obtain ⟨g6, o6, rfl, m0, m1⟩ := hO.out.own.at2 hq1
        rw [(HV.out.2.2 Q (by have := HV.out.2.1; omega)).1] at m0
        rw [(HV.out.2.2 Q (by have := HV.out.2.1; omega)).2, HQ.out, HTK.out.2, ← HQ.out, ← HVV.out] at m1
        have hq2 : ¬ (M.notes.length : Int) ≤ (Q : Int) := by omega
        have hq3 : (Q : Int) < (M.notes.length : Int) := by omega
        have hd1 : decide ((M.notes.length : Int) ≤ (Q : Int)) = false := decide_eq_false hq2
        have hwr : IntKind.i64.wrap ((Q : Int) + 1) = (Q : Int) + 1 := lnwrap (by omega) (by omega)
        obtain ⟨⟨o0, o1, o2, o3, o4, o5, o6, o7, o8, o9, o10⟩, _⟩ := rowN11 hO.out.row
        go_wp2_with fail
        go_quiet (fail)
        have hOZ := hO.out.below (lndrewN (Below.refl _ wr) nq)
        obtain ⟨Z, hZ⟩ : ∃ Z, Z = wr.drewN nq := ⟨_, rfl⟩
        rw [← hZ] at hOZ ⊢
        have OZ := Lib.hid hOZ
        clear hZ hOZ hO c0 c1 m0 m1 o0 o1 o2 o3 o4 o5 o6 o7 o8 o9 o10
        obtain ⟨g', o', he', c0, c1⟩ := OZ.out.ev.at2 hlt
        obtain ⟨rfl, rfl⟩ : g' = g ∧ o' = o := by cases he'; exact ⟨rfl, rfl⟩
        clear he'
        rw [← HVV.out] at c1
        go_wp2_with fail
        go_roundw
        case rel => exact ⟨i + 1, by omega, by go_num, by rw [HN.out, List.length_append, ← HQ.out]; simp, by rw [HN.out, Ln.lastv_snoc], OZ⟩
        case measure => simp [intOf]; omega
      have hz0 : (0 : Int) < (Q : Int) := by omega
      by_cases h1 : ¬ vv - p ≤ b
      · have HT : Hid (Ln.Tk b (Ln.tk b (Ln.fl L) i) (Ln.fl L (i * 2 + 1))) := fun z => h1 (by rw [HVV.out, HP.out]; exact z.2.2)
        have HN : Hid (Ln.tk b (Ln.fl L) (i + 1) = Ln.tk b (Ln.fl L) i ++ [vv]) := by show _ = _; rw [HVV.out]; exact Ln.tk_yes HK1.out HT.out
        have HTK : Hid ((Ln.tk b (Ln.fl L) i).length < (Ln.tk b (Ln.fl L) L.length).length ∧ (Ln.tk b (Ln.fl L) L.length).getD (Ln.tk b (Ln.fl L) i).length 0 = Ln.fl L (i * 2 + 1)) := Ln.took hlt (by rw [HN.out, HVV.out])
        have hq1 : Q < M.notes.length := by have := HTK.out.1; have := HV.out.2.1; have := HQ.out; omega
        obtain ⟨g6, o6, rfl, m0, m1⟩ := hO.out.own.at2 hq1
        rw [(HV.out.2.2 Q (by have := HV.out.2.1; omega)).1] at m0
        rw [(HV.out.2.2 Q (by have := HV.out.2.1; omega)).2, HQ.out, HTK.out.2, ← HQ.out, ← HVV.out] at m1
        have hq2 : ¬ (M.notes.length : Int) ≤ (Q : Int) := by omega
        have hq3 : (Q : Int) < (M.notes.length : Int) := by omega
        have hd1 : decide ((M.notes.length : Int) ≤ (Q : Int)) = false := decide_eq_false hq2
        have hwr : IntKind.i64.wrap ((Q : Int) + 1) = (Q : Int) + 1 := lnwrap (by omega) (by omega)
        obtain ⟨⟨o0, o1, o2, o3, o4, o5, o6, o7, o8, o9, o10⟩, _⟩ := rowN11 hO.out.row
        go_wp2_with fail
        go_quiet (fail)
        have hOZ := hO.out.below (lndrewN (Below.refl _ wr) nq)
        obtain ⟨Z, hZ⟩ : ∃ Z, Z = wr.drewN nq := ⟨_, rfl⟩
        rw [← hZ] at hOZ ⊢
        have OZ := Lib.hid hOZ
        clear hZ hOZ hO c0 c1 m0 m1 o0 o1 o2 o3 o4 o5 o6 o7 o8 o9 o10
        obtain ⟨g', o', he', c0, c1⟩ := OZ.out.ev.at2 hlt
        obtain ⟨rfl, rfl⟩ : g' = g ∧ o' = o := by cases he'; exact ⟨rfl, rfl⟩
        clear he'
        rw [← HVV.out] at c1
        go_wp2_with fail
        go_roundw
        case rel => exact ⟨i + 1, by omega, by go_num, by rw [HN.out, List.length_append, ← HQ.out]; simp, by rw [HN.out, Ln.lastv_snoc], OZ⟩
        case measure => simp [intOf]; omega
      replace h1 := Decidable.not_not.1 h1
      by_cases h2 : ¬ -(vv - p) ≤ b
      · have HT : Hid (Ln.Tk b (Ln.tk b (Ln.fl L) i) (Ln.fl L (i * 2 + 1))) := fun z => h2 (by have := z.2.1; rw [← HVV.out, ← HP.out] at this; omega)
        have h3 : ¬ p - vv ≤ b := by omega
        have HN : Hid (Ln.tk b (Ln.fl L) (i + 1) = Ln.tk b (Ln.fl L) i ++ [vv]) := by show _ = _; rw [HVV.out]; exact Ln.tk_yes HK1.out HT.out
        have HTK : Hid ((Ln.tk b (Ln.fl L) i).length < (Ln.tk b (Ln.fl L) L.length).length ∧ (Ln.tk b (Ln.fl L) L.length).getD (Ln.tk b (Ln.fl L) i).length 0 = Ln.fl L (i * 2 + 1)) := Ln.took hlt (by rw [HN.out, HVV.out])
        have hq1 : Q < M.notes.length := by have := HTK.out.1; have := HV.out.2.1; have := HQ.out; omega
        obtain ⟨g6, o6, rfl, m0, m1⟩ := hO.out.own.at2 hq1
        rw [(HV.out.2.2 Q (by have := HV.out.2.1; omega)).1] at m0
        rw [(HV.out.2.2 Q (by have := HV.out.2.1; omega)).2, HQ.out, HTK.out.2, ← HQ.out, ← HVV.out] at m1
        have hq2 : ¬ (M.notes.length : Int) ≤ (Q : Int) := by omega
        have hq3 : (Q : Int) < (M.notes.length : Int) := by omega
        have hd1 : decide ((M.notes.length : Int) ≤ (Q : Int)) = false := decide_eq_false hq2
        have hwr : IntKind.i64.wrap ((Q : Int) + 1) = (Q : Int) + 1 := lnwrap (by omega) (by omega)
        obtain ⟨⟨o0, o1, o2, o3, o4, o5, o6, o7, o8, o9, o10⟩, _⟩ := rowN11 hO.out.row
        go_wp2_with fail
        go_quiet (fail)
        have hOZ := hO.out.below (lndrewN (Below.refl _ wr) nq)
        obtain ⟨Z, hZ⟩ : ∃ Z, Z = wr.drewN nq := ⟨_, rfl⟩
        rw [← hZ] at hOZ ⊢
        have OZ := Lib.hid hOZ
        clear hZ hOZ hO c0 c1 m0 m1 o0 o1 o2 o3 o4 o5 o6 o7 o8 o9 o10
        obtain ⟨g', o', he', c0, c1⟩ := OZ.out.ev.at2 hlt
        obtain ⟨rfl, rfl⟩ : g' = g ∧ o' = o := by cases he'; exact ⟨rfl, rfl⟩
        clear he'
        rw [← HVV.out] at c1
        go_wp2_with fail
        go_roundw
        case rel => exact ⟨i + 1, by omega, by go_num, by rw [HN.out, List.length_append, ← HQ.out]; simp, by rw [HN.out, Ln.lastv_snoc], OZ⟩
        case measure => simp [intOf]; omega
      replace h2 := Decidable.not_not.1 h2
      have h3 : p - vv ≤ b := by omega
      have hne : Ln.tk b (Ln.fl L) i ≠ [] := fun z => by have := HQ.out; rw [z] at this; simp at this; omega
      have HN : Hid (Ln.tk b (Ln.fl L) (i + 1) = Ln.tk b (Ln.fl L) i) := Ln.tk_no (fun z => z.2 ⟨hne, by rw [← HVV.out, ← HP.out]; omega, by rw [← HVV.out, ← HP.out]; exact h1⟩)
      clear hne
      go_wp2_with fail
      go_roundw
      case rel => exact ⟨i + 1, by omega, by go_num, by rw [HN.out, ← HQ.out], by rw [HN.out, ← HP.out], hO⟩
      case measure => simp [intOf]; omega
    · obtain rfl : i = L.length := by omega
      obtain ⟨e1, e2, _⟩ := HV.out
      have q6 : (M.notes.length : Int) ≤ 200 := by have := (Ln.small HEV.out.1 hLn HEV.out.2 (Nat.le_refl _)).2.2; omega
      rw [← e2]
      obtain ⟨⟨o0, o1, o2, o3, o4, o5, o6, o7, o8, o9, o10⟩, _⟩ := rowN11 hO.out.row
      rw [e1] at o9
      clear e1 e2
      go_wp2_with fail
      go_ret
      exact ⟨rfl, hO.out.bel⟩
end Go.Proofs.YtdlojhncbgfjbaaGreatDoor
