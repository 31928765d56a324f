/-
  Joined: LnLawO.
-/
import Derived.Test.YtdlojhncbgfjbaaGreatDoorLnBgB
namespace Go.Proofs.YtdlojhncbgfjbaaGreatDoor
open Go Go.RowKit Go.Deep

set_option maxRecDepth 100000 in
set_option maxHeartbeats 16000000 in
theorem linkOnce_fn (w : World) (a : Option Addr) (len cap : Nat) (h : Bytes a len w) (hl : len ≤ 9223372036854775807) (hg : LnG w) :
    Calls Tryz.prog 3 #[.slice a len cap] w fun e w' => e = .returned (.bool true) ∧ Below w.heap.size w w' := by
  have H := Lib.hid h
  have HG := Lib.hid hg
  clear h hg
  by_cases hbig : (1048576 : Int) < (len : Int)
  · go_enter Tryz.func3, Tryz.ntmps3
    go_wp2_with fail
    go_ret
    exact ⟨rfl, Below.refl _ _⟩
  obtain ⟨i0, hi0, hz0, hz1, hz2⟩ := info_parts leinfo
  go_enter Tryz.func3, Tryz.ntmps3
  go_wp2_with fail
  refine (drawLR_any a len cap _ H.out (by omega)).mono ?_
  rintro e w1 ⟨⟨u, b, la, n, c, f, rfl, hn4, hq, hat, hbb⟩, hb⟩
  have HI : Hid (IsIn la (n * 2) f w1) := hq.in_
  have HB : Hid (Below w.heap.size w w1) := hb
  clear hb hq hat hbig hl H
  go_wp2_with fail
  refine (specRun_any u b la n c f _ HI.out (by omega)).mono ?_
  rintro e w2 ⟨hE, hb⟩
  obtain ⟨pa, pk, pb, pl, rfl, _, _, _⟩ := hE
  obtain ⟨cd, hcd⟩ : ∃ x, x = Ln.lcode u b f n := ⟨_, rfl⟩
  obtain ⟨S0, hS0⟩ : ∃ x, x = Ln.lst u b f n := ⟨_, rfl⟩
  obtain ⟨M0, hM0⟩ : ∃ x, x = Ln.lma u b f n := ⟨_, rfl⟩
  rw [← hcd, ← hS0, ← hM0]
  have HCD := Lib.hid hcd
  have HS0 := Lib.hid hS0
  have HBw := Lib.hid (HB.out.trans (hb.mono HB.out.size))
  have HI2 := Lib.hid (HI.out.below hb)
  clear hb HI HB hcd hS0 hM0
  go_wp2_with fail
  rw [lo_code]
  by_cases hc : ¬ cd = 0
  · have hyb : (cd != 0) = true := by simpa using hc
    go_wp2_with fail
    go_ret
    exact ⟨rfl, HBw.out⟩
  replace hc := Decidable.not_not.1 hc
  subst hc
  by_cases hn : ¬ n < 200
  · have hyb : (200 : Int) ≤ (n : Int) := by omega
    go_wp2_with fail
    go_ret
    exact ⟨rfl, HBw.out⟩
  replace hn := Decidable.not_not.1 hn
  have hn2 : ¬ (200 : Int) ≤ (n : Int) := by omega
  obtain ⟨L, hL⟩ : ∃ L, L = Ln.nof n f := ⟨_, rfl⟩
  have hLn : n = L.length := by rw [hL, Ln.nof_len]
  subst hLn
  have HEQ : Hid (∀ j, j < L.length * 2 → Ln.fl L j = f j) := fun j hj => by rw [hL]; exact Ln.nof_fl _ f j hj
  have HL : Hid (IsIn la (L.length * 2) (Ln.fl L) w2) := HI2.out.congr (fun j hj => (HEQ.out j hj).symm)
  clear hL
  have HO : Hid ((w2.alloc (.cells #[] 35)).ownsRow w2.heap.size 35 2 (.slice (some ⟨w2.heap.size, 0, none⟩) 0 0) 0 (nvs [])) := World.ownsRow_made (e := 35) (size := 2) w2 #[] 0 (Nat.le_refl _) (Nat.zero_le _) rfl
  have HM : Hid (IsIn la (L.length * 2) (Ln.fl L) (w2.alloc (.cells #[] 35))) := HL.out.below (nbel_alloc _ _)
  have HN4 : Hid (L.length ≤ 400) := hn4
  go_wp2_with (at_builtin; refine wpList_append_ns (l := []) (m := L) rfl _ _ 23 rfl 35 i0 (.agg #[.int .i64 0, .int .i64 0]) 16 Tryz.underlying23 hi0 hz0 hz1 hz2 rfl w2.heap.size _ rfl HO.out la c rfl HM.out (by have := HN4.out; unfold maxLen; simp; omega) (by have := HN4.out; simp; omega) (by simp) ?_)
  intro v1 y1 hown hgrow
  have hown1 : y1.ownsRow w2.heap.size 35 2 v1 L.length (nvs L) := by simpa using hown
  have HB1 : Hid (Below w2.heap.size w2 y1) := lnbelow_grown ((Below.refl _ _).alloc (Nat.le_refl _) _) (by simp) hgrow (fun k e => (World.ownsRow.lt HO.out k e).1)
  obtain ⟨la1, lc1, rfl, _, _⟩ := own_ns hown1
  have hsz1 : w2.heap.size ≤ y1.heap.size := HB1.out.size
  have HO1 : Hid ((y1.alloc (.cells #[.int .i64 2, .int .i64 0] 35)).ownsRow w2.heap.size 35 2 (.slice la1 L.length lc1) L.length (nvs L)) := hown1.alloc _
  have HM1 := Lib.hid (one_in y1 35 2 0)
  have HSZ1 := Lib.hid hsz1
  clear hown hown1 hgrow hsz1 HO HM
  go_wp2_with (at_builtin; refine wpList_append_ns (l := L) (m := [(2, 0)]) rfl _ _ 23 rfl 35 i0 (.agg #[.int .i64 0, .int .i64 0]) 16 Tryz.underlying23 hi0 hz0 hz1 hz2 rfl w2.heap.size _ rfl HO1.out (some ⟨y1.heap.size, 0, none⟩) 1 rfl HM1.out (by have := HN4.out; unfold maxLen; simp; omega) (by have := HN4.out; simp; omega) (by have := HSZ1.out; simp; omega) ?_)
  intro v2 y2 hown hgrow
  have hown2 : y2.ownsRow w2.heap.size 35 2 v2 (L ++ [(2, 0)]).length (nvs (L ++ [(2, 0)])) := by simpa using hown
  have HBB : Below w2.heap.size w2 y2 := lnbelow_grown (HB1.out.alloc HB1.out.size _) (by have := HB1.out.size; simp; omega) hgrow (fun k e => (World.ownsRow.lt HO1.out k e).1)
  have HB2 : Hid (Below w.heap.size w y2) := HBw.out.trans (HBB.mono HBw.out.size)
  have HL2 : Hid (IsIn la (L.length * 2) (Ln.fl L) y2) := HL.out.below HBB
  obtain ⟨la2, lc2, hv2, hq2, _⟩ := own_ns hown2
  have hlen : (L ++ [((2 : Int), (0 : Int))]).length = L.length + 1 := by simp
  rw [hlen] at hv2 hq2
  subst hv2
  obtain ⟨F, hF⟩ : ∃ F, F = Ln.fl (L ++ [(2, 0)]) := ⟨_, rfl⟩
  rw [← hF] at hq2
  have HQ2 : Hid (IsIn la2 ((L.length + 1) * 2) F y2) := hq2.in_
  have HF := Lib.hid hF
  clear hown hown2 hgrow HO1 HM1 HB1 HL HSZ1 hq2 HBB hlen hF
  go_wp2_with fail
  refine (implRun_any u b la2 (L.length + 1) lc2 F _ HQ2.out (HG.out.below HB2.out)).mono ?_
  rintro e w5 ⟨hE, hb⟩
  have hf := Ln.fin (u := u) (b := b) (f := f) (g := F) (n := L.length) HCD.out.symm (by omega) (fun j hj => by rw [HF.out, Ln.fl_app _ _ _ hj]; exact HEQ.out j hj) (by rw [HF.out, show L.length * 2 = L.length * 2 + 0 by omega, Ln.fl_app2]; rfl) (by rw [HF.out, Ln.fl_app2]; rfl)
  rw [hf.1] at hE
  have hfn := hf.2
  clear hf
  obtain ⟨S, hS⟩ : ∃ x, x = Ln.lst u b F (L.length + 1) := ⟨_, rfl⟩
  obtain ⟨M, hM⟩ : ∃ x, x = Ln.lma u b F (L.length + 1) := ⟨_, rfl⟩
  rw [← hS, ← hM] at hE hfn
  rw [Ln.tk_same b (f := Ln.fl L) L.length (fun j hj => by rw [HF.out]; exact Ln.fl_app _ _ _ hj), ← HS0.out] at hfn
  have FN := Lib.hid hfn
  obtain ⟨a6, k6, b6, l6, rfl, ho1, ho2, _⟩ := hE
  obtain ⟨W5, hW5⟩ : ∃ Z, Z = w5.alloc (.cells #[.int .i64 S.unit, .int .i64 S.band, .bool S.seen, .int .i64 S.last, .int .i64 S.next, .slice a6 S.wait.length k6, .int .i64 S.drops, .int .i64 M.seq, .slice b6 M.notes.length l6, .int .i64 M.gaps, .int .i64 0] 32) := ⟨_, rfl⟩
  obtain ⟨s, hs⟩ : ∃ s, s = w5.heap.size := ⟨_, rfl⟩
  have ON : Hid (OnS s S M a6 k6 b6 l6 la L.length (Ln.fl L) w W5) := by
    show OnS _ _ _ _ _ _ _ _ _ _ _ _
    have hb5 := hb.trans ((nbel_alloc w5 (.cells #[.int .i64 S.unit, .int .i64 S.band, .bool S.seen, .int .i64 S.last, .int .i64 S.next, .slice a6 S.wait.length k6, .int .i64 S.drops, .int .i64 M.seq, .slice b6 M.notes.length l6, .int .i64 M.gaps, .int .i64 0] 32)).mono hb.size)
    rw [hW5, hs]
    exact ⟨rowN_alloc w5 (loL S M a6 k6 b6 l6 0) _, ho2.in_.below (nbel_alloc _ _), HL2.out.below hb5, HB2.out.trans (hb5.mono HB2.out.size)⟩
  have HW5 := Lib.hid hW5
  have HSS := Lib.hid hs
  clear hb hW5 hs hS hM hfn ho1 ho2 HL2 HQ2 HB2 HEQ HF HCD HS0
  have f1 : S.wait.length = 0 := FN.out.wait
  have f2 : ¬ S.drops < M.gaps := by have := FN.out.gd; omega
  have f3 : ¬ M.gaps < 0 := by have := FN.out.g0; omega
  have hW5 := HW5.out
  obtain ⟨⟨o0, o1, o2, o3, o4, o5, o6, o7, o8, o9, o10⟩, _⟩ := rowN11 ON.out.row
  rw [hW5, HSS.out] at o0 o1 o2 o3 o4 o5 o6 o7 o8 o9 o10
  rw [f1] at o5
  have HQ := FN
  rw [f1] at hW5
  have HW6 := Lib.hid hW5
  clear hW5 FN HW5
  have HW5 := HW6
  clear HW6
  go_wp2_with fail
  rw [← HW5.out, ← HSS.out]
  clear HW5 HSS o0 o1 o2 o3 o4 o5 o6 o7 o8 o9 o10 f1 f2 f3
  have HQB : Hid ((1 ≤ S.next ∧ S.next ≤ 201) ∧ M.notes.length ≤ 200 ∧ 0 ≤ M.gaps ∧ M.gaps ≤ 200) := by
    have q1 := HQ.out.sum
    have q2 := HQ.out.next
    have q3 := HQ.out.big
    have q4 := HQ.out.g0
    have q5 := HQ.out.seq
    show _ ∧ _
    omega
  go_loopw [7, 8] (fun lv iv wr => ∃ (i : Nat), i ≤ M.notes.length ∧ iv = .int .i64 i ∧ lv = .int .i64 (Ln.ah (Ln.fl M.notes) i) ∧ Hid (OnS s S M a6 k6 b6 l6 la L.length (Ln.fl L) w wr)) (fun _ iv _ => M.notes.length - (intOf iv).toNat)
  case atStart => exact ⟨0, Nat.zero_le _, rfl, by simp [Ln.ah], ON⟩
  case round =>
    obtain ⟨i, hi, rfl, rfl, hO⟩ := hrel
    clear ON
    by_cases hlt : i < M.notes.length
    · have hltz : (i : Int) < (M.notes.length : Int) := by omega
      obtain ⟨g, o, rfl, c0, c1⟩ := hO.out.own.at2 hlt
      obtain ⟨u1, u2⟩ := HQ.out.up i hlt
      have u3 : ¬ Ln.fl M.notes (i * 2) ≤ Ln.ah (Ln.fl M.notes) i := by omega
      have u4 : ¬ S.next ≤ Ln.fl M.notes (i * 2) := by omega
      have HB9 : Hid (OnS s S M a6 k6 (some ⟨g, o, none⟩) l6 la L.length (Ln.fl L) w (wr.alloc (.cells #[.int .i64 (Ln.fl M.notes (i * 2)), .int .i64 (Ln.fl M.notes (i * 2 + 1))] 37))) := hO.out.below (nbel_alloc _ _)
      obtain ⟨⟨o0, o1, o2, o3, o4, o5, o6, o7, o8, o9, o10⟩, _⟩ := rowN11 hO.out.row
      obtain ⟨⟨y0, y1, y2, y3, y4, y5, y6, y7, y8, y9, y10⟩, _⟩ := rowN11 HB9.out.row
      clear u1 u2
      have hm2 : M.notes.length ≤ 200 := HQB.out.2.1
      go_wp2_with fail
      go_roundw
      case rel => exact ⟨i + 1, by omega, by go_num, by rw [Ln.ah_succ], HB9⟩
      case measure => simp [intOf]; omega
    · obtain rfl : i = M.notes.length := by omega
      have e1 := HQ.out.last
      have e2 := HQ.out.seq
      have e3 := HQ.out.sum
      obtain ⟨⟨q1, q2⟩, q3, q4, q5⟩ := HQB.out
      have q6 : (M.notes.length : Int) ≤ 200 := by omega
      rw [e1]
      obtain ⟨⟨o0, o1, o2, o3, o4, o5, o6, o7, o8, o9, o10⟩, _⟩ := rowN11 hO.out.row
      rw [e2] at o7
      go_wp2_with fail
      go_ret
      exact ⟨rfl, hO.out.bel⟩
end Go.Proofs.YtdlojhncbgfjbaaGreatDoor
