/-
  The law FnHistory.
-/
import Derived.Test.YtmejmpdljckfgaaDoorHsDs
import Derived.Test.YtmejmpdljckfgaaDoorHsBk
import Derived.Test.YtmejmpdljckfgaaDoorHsTi
import Derived.Test.YtmejmpdljckfgaaDoorHsUp
import Derived.Test.YtmejmpdljckfgaaDoorHsWo
import Derived.Test.YtmejmpdljckfgaaDoorHsRj
import Derived.Test.YtmejmpdljckfgaaDoorLwI
namespace Go.Proofs.YtmejmpdljckfgaaDoor
open Go Go.RowKit Go.Deep

set_option maxRecDepth 100000 in
set_option maxHeartbeats 16000000 in
theorem history_fn (w : World) (a : Option Addr) (len cap : Nat) (h : Bytes a len w) (hl : len ≤ 9223372036854775807) (hg : Et w) :
    Calls Tryd.prog 5 #[.slice a len cap] w fun e w' => e = .returned (.bool true) ∧ Below w.heap.size w w' := by
  have H := Lib.hid h
  have HG := Lib.hid hg
  clear h hg
  by_cases hbig : (1048576 : Int) < (len : Int)
  · go_enter Tryd.func5, Tryd.ntmps5
    go_wp2_with fail
    go_ret
    exact ⟨rfl, Below.refl _ _⟩
  obtain ⟨i0, hi0, hz0, hz1, hz2⟩ := info_parts hinfo_pt
  go_enter Tryd.func5, Tryd.ntmps5
  go_wp2_with fail
  refine (drawHP_any a len cap _ H.out (by omega)).mono ?_
  rintro e w1 ⟨⟨va, vk, n, V, b, rfl, hc, hn⟩, hb⟩
  have KV := Lib.hid hc
  have OLD := Lib.hid hb
  replace HG := Lib.hid (HG.out.below hb)
  have HVN : Hid (va = none → vk = 0) := fun e => by
    rcases KV.out with h | ⟨g, e2, _⟩
    · exact h.2.2
    · rw [e2] at e; cases e
  clear hc hb H hbig hl
  by_cases hn0 : n = 0
  · have hnz : ((n : Int) == 0) = true := by simp; omega
    go_wp2_with fail
    go_ret
    exact ⟨rfl, OLD.out⟩
  have hnz : ((n : Int) == 0) = false := by simp; omega
  have HN0 := Lib.hid hn0
  clear hn0
  go_wp2_with fail
  refine (specPack_any va n vk V b _ KV.out.at_ (by omega)).mono ?_
  rintro e w2 ⟨⟨a5, k5, rfl, _⟩, hb⟩
  obtain ⟨L, hL⟩ : ∃ L, L = Hs.keep V n b := ⟨_, rfl⟩
  rw [← hL]
  have HL := Lib.hid hL
  replace OLD := Lib.hid (OLD.out.trans (hb.mono OLD.out.size))
  replace KV := Lib.hid (KV.out.below hb)
  replace HG := Lib.hid (HG.out.below hb)
  have hL3 : L.length ≤ 300 := by rw [hL]; exact Hs.keep_len V n b
  clear hb hL
  by_cases hl0 : L.length = 0
  · have hlz : ((L.length : Int) == 0) = true := by rw [beq_iff_eq]; omega
    go_wp2_with fail
    go_ret
    exact ⟨rfl, OLD.out⟩
  have hlz : ((L.length : Int) == 0) = false := by rw [beq_eq_false_iff_ne]; omega
  have HOK : Hid (Hs.Vals V n ∧ Hs.Band b) := by
    show _ ∧ _
    by_cases hq : Hs.Vals V n ∧ Hs.Band b
    · exact hq
    · have := Hs.keep_no hq
      rw [← HL.out] at this
      rw [this] at hl0
      simp at hl0
  have HLP : Hid (L = Hs.pack V b n) := by show L = _; rw [HL.out, Hs.keep_yes HOK.out.1 HOK.out.2]
  have HRT : Hid (Hs.RightL L) := by show Hs.RightL L; rw [HLP.out]; exact Hs.pack_right HOK.out.1 n (Nat.le_refl _)
  have HOF : Hid (0 ≤ Hs.off V n (Ln.fl L) L.length ∧ Hs.off V n (Ln.fl L) L.length ≤ b) := by show _ ∧ _; rw [HLP.out]; exact Hs.off_pack HOK.out.1 HOK.out.2
  have HB0 : Hid (0 ≤ b ∧ b ≤ 1000000) := HOK.out.2
  clear hl0
  go_wp2_with fail
  refine (ncopy_any va n vk V _ KV.out.at_ (by omega) HVN.out).mono ?_
  rintro e w3 ⟨⟨g1, g1k, rfl, _, hcp⟩, hb⟩
  replace OLD := Lib.hid (OLD.out.trans (hb.mono OLD.out.size))
  replace KV := Lib.hid (KV.out.below hb)
  replace HG := Lib.hid (HG.out.below hb)
  have KP := Lib.hid hcp
  clear hcp hb
  go_wp2_with fail
  refine (implPack_any _ n _ V b _ KP.out (by omega)).mono ?_
  rintro e w4 ⟨⟨a6, k6, rfl, hcy⟩, hb⟩
  replace OLD := Lib.hid (OLD.out.trans (hb.mono OLD.out.size))
  replace KV := Lib.hid (KV.out.below hb)
  replace HG := Lib.hid (HG.out.below hb)
  rw [← HL.out] at hcy ⊢
  have KL := Lib.hid hcy
  clear hb hcy KP
  go_wp2_with fail
  refine (ncopy_any va n vk V _ KV.out.at_ (by omega) HVN.out).mono ?_
  rintro e w5 ⟨⟨g2, g2k, rfl, _, hcp⟩, hb⟩
  replace OLD := Lib.hid (OLD.out.trans (hb.mono OLD.out.size))
  replace KV := Lib.hid (KV.out.below hb)
  replace HG := Lib.hid (HG.out.below hb)
  replace KL := Lib.hid (KL.out.below hb)
  have KP := Lib.hid hcp
  clear hcp hb
  have HO : Hid ((w5.alloc (.cells #[] 104)).ownsRow w5.heap.size 104 2 (.slice (some ⟨w5.heap.size, 0, none⟩) 0 0) 0 (nvs [])) := World.ownsRow_made (e := 104) (size := 2) w5 #[] 0 (Nat.le_refl _) (Nat.zero_le _) rfl
  have HMI : Hid (IsIn a6 (L.length * 2) (Ln.fl L) (w5.alloc (.cells #[] 104))) := (KL.out.below (nbel_alloc _ _)).at_.in_
  go_wp2_with (at_builtin; refine wpList_append_ns (l := []) (m := L) rfl _ _ 59 rfl 104 i0 (.agg #[.int .i64 0, .int .i64 0]) 16 Tryd.underlying59 hi0 hz0 hz1 hz2 rfl w5.heap.size _ rfl HO.out a6 k6 rfl HMI.out (by unfold maxLen; simp; omega) (by simp; omega) (by simp) ?_)
  intro v1 y5 hown hgrow
  have hown1 : y5.ownsRow w5.heap.size 104 2 v1 L.length (nvs L) := by simpa using hown
  have hby : Below w5.heap.size w5 y5 := lnbelow_grown ((Below.refl _ _).alloc (Nat.le_refl _) _) (by simp) hgrow (fun k e => (World.ownsRow.lt HO.out k e).1)
  obtain ⟨c6, d6, rfl, hcy⟩ := cyo_own hown1
  have KC := Lib.hid hcy
  replace OLD := Lib.hid (OLD.out.trans (hby.mono OLD.out.size))
  replace KV := Lib.hid (KV.out.below hby)
  replace HG := Lib.hid (HG.out.below hby)
  replace KL := Lib.hid (KL.out.below hby)
  replace KP := Lib.hid (KP.out.below hby)
  clear hown hown1 hgrow HO HMI hby hcy
  go_wp2_with fail
  refine (implWorst_any _ n _ V c6 L.length d6 (Ln.fl L) _ KP.out (by omega) KC.out.at_ (by omega)).mono ?_
  rintro e w6 ⟨rfl, hb⟩
  replace OLD := Lib.hid (OLD.out.trans (hb.mono OLD.out.size))
  replace KV := Lib.hid (KV.out.below hb)
  replace HG := Lib.hid (HG.out.below hb)
  replace KL := Lib.hid (KL.out.below hb)
  obtain ⟨x, hx⟩ : ∃ x, x = Hs.off V n (Ln.fl L) L.length := ⟨_, rfl⟩
  rw [← hx] at HOF ⊢
  have hx0 := HOF.out.1
  have hx1 := HOF.out.2
  clear hb hx KP KC
  have HO : Hid ((w6.alloc (.cells #[] 104)).ownsRow w6.heap.size 104 2 (.slice (some ⟨w6.heap.size, 0, none⟩) 0 0) 0 (nvs [])) := World.ownsRow_made (e := 104) (size := 2) w6 #[] 0 (Nat.le_refl _) (Nat.zero_le _) rfl
  have HMI : Hid (IsIn a6 (L.length * 2) (Ln.fl L) (w6.alloc (.cells #[] 104))) := (KL.out.below (nbel_alloc _ _)).at_.in_
  go_wp2_with (at_builtin; refine BigFrame.wpList_want (by rfl) (fun K hK => wp_append_ns (l := []) (m := L) _ _ 59 rfl 104 i0 (.agg #[.int .i64 0, .int .i64 0]) 16 Tryd.underlying59 hi0 hz0 hz1 hz2 rfl w6.heap.size _ rfl HO.out a6 k6 rfl HMI.out (by unfold maxLen; simp; omega) (by simp; omega) (by simp) ?_))
  intro v1 y6 hown hgrow
  refine hK _ _ ?_
  have hown1 : y6.ownsRow w6.heap.size 104 2 v1 L.length (nvs L) := by simpa using hown
  have hby : Below w6.heap.size w6 y6 := lnbelow_grown ((Below.refl _ _).alloc (Nat.le_refl _) _) (by simp) hgrow (fun k e => (World.ownsRow.lt HO.out k e).1)
  obtain ⟨c7, d7, rfl, hcy⟩ := cyo_own hown1
  have KC := Lib.hid hcy
  replace OLD := Lib.hid (OLD.out.trans (hby.mono OLD.out.size))
  replace KV := Lib.hid (KV.out.below hby)
  replace HG := Lib.hid (HG.out.below hby)
  replace KL := Lib.hid (KL.out.below hby)
  clear hown hown1 hgrow HO HMI hby hcy
  go_wp2_with fail
  refine (implPR_any c7 L.length d7 (Ln.fl L) _ KC.out.at_ (by omega)).mono ?_
  rintro e w7 ⟨rfl, hb⟩
  replace OLD := Lib.hid (OLD.out.trans (hb.mono OLD.out.size))
  replace KV := Lib.hid (KV.out.below hb)
  replace HG := Lib.hid (HG.out.below hb)
  replace KL := Lib.hid (KL.out.below hb)
  rw [Mt.dB_tt (show Hs.Right (Ln.fl L) L.length from HRT.out)]
  clear hb KC
  have hxn : ¬ x < 0 := by omega
  have hxb : ¬ b < x := by omega
  have HO : Hid ((w7.alloc (.cells #[] 104)).ownsRow w7.heap.size 104 2 (.slice (some ⟨w7.heap.size, 0, none⟩) 0 0) 0 (nvs [])) := World.ownsRow_made (e := 104) (size := 2) w7 #[] 0 (Nat.le_refl _) (Nat.zero_le _) rfl
  have HMI : Hid (IsIn a6 (L.length * 2) (Ln.fl L) (w7.alloc (.cells #[] 104))) := (KL.out.below (nbel_alloc _ _)).at_.in_
  go_wp2_with (at_builtin; refine wpList_append_ns (l := []) (m := L) rfl _ _ 59 rfl 104 i0 (.agg #[.int .i64 0, .int .i64 0]) 16 Tryd.underlying59 hi0 hz0 hz1 hz2 rfl w7.heap.size _ rfl HO.out a6 k6 rfl HMI.out (by unfold maxLen; simp; omega) (by simp; omega) (by simp) ?_)
  intro v1 y7 hown hgrow
  have hown1 : y7.ownsRow w7.heap.size 104 2 v1 L.length (nvs L) := by simpa using hown
  have hby : Below w7.heap.size w7 y7 := lnbelow_grown ((Below.refl _ _).alloc (Nat.le_refl _) _) (by simp) hgrow (fun k e => (World.ownsRow.lt HO.out k e).1)
  obtain ⟨c8, d8, rfl, hcy⟩ := cyo_own hown1
  have KC := Lib.hid hcy
  replace OLD := Lib.hid (OLD.out.trans (hby.mono OLD.out.size))
  replace KV := Lib.hid (KV.out.below hby)
  replace HG := Lib.hid (HG.out.below hby)
  replace KL := Lib.hid (KL.out.below hby)
  clear hown hown1 hgrow HO HMI hby hcy
  go_wp2_with fail
  refine (implTx_any c8 L.length d8 (Ln.fl L) _ KC.out.at_ (by omega)).mono ?_
  rintro e w8 ⟨rfl, hb⟩
  replace OLD := Lib.hid (OLD.out.trans (hb.mono OLD.out.size))
  replace KV := Lib.hid (KV.out.below hb)
  replace HG := Lib.hid (HG.out.below hb)
  replace KL := Lib.hid (KL.out.below hb)
  obtain ⟨S, hS⟩ : ∃ S : ByteArray, S = ⟨(Hs.text (Ln.fl L) L.length).toArray⟩ := ⟨_, rfl⟩
  rw [← hS]
  have HSE : Hid (S.data.toList = Hs.textL L) := by show _ = _; rw [hS]; rfl
  have hSz : S.size ≤ 1800 := by have h1 := HRT.out.len; have h2 : S.data.toList.length = S.size := rfl; rw [HSE.out] at h2; omega
  clear hb hS KC
  go_wp2_with fail
  refine (implRead_any S _ (by omega) HG.out).mono ?_
  rintro e w9 ⟨⟨m, cd, a9, k9, hr, rfl, hcy⟩, hb⟩
  replace OLD := Lib.hid (OLD.out.trans (hb.mono OLD.out.size))
  replace KV := Lib.hid (KV.out.below hb)
  replace HG := Lib.hid (HG.out.below hb)
  replace KL := Lib.hid (KL.out.below hb)
  rw [HSE.out] at hr
  obtain ⟨hm, hcd⟩ := Hs.read_pack HRT.out hr
  rw [hm] at hcy
  rw [hm, hcd]
  have KM := Lib.hid hcy
  clear hb hr hcy hm hcd
  obtain ⟨Z, hZ⟩ : ∃ Z, Z = w9.alloc (.cells #[.slice a9 L.length k9, .int .i64 0] 65) := ⟨_, rfl⟩
  obtain ⟨s9, hs9⟩ : ∃ s, s = w9.heap.size := ⟨_, rfl⟩
  have hbz : Below w9.heap.size w9 Z := by rw [hZ]; exact nbel_alloc _ _
  have HZR : Hid (Z.rowIs s9 65 2 (rowN [.slice a9 L.length k9, .int .i64 0])) := by show World.rowIs _ _ _ _ _; rw [hZ, hs9]; exact rowN_alloc w9 [.slice a9 L.length k9, .int .i64 0] _
  replace OLD := Lib.hid (OLD.out.trans (hbz.mono OLD.out.size))
  replace KV := Lib.hid (KV.out.below hbz)
  replace HG := Lib.hid (HG.out.below hbz)
  replace KL := Lib.hid (KL.out.below hbz)
  replace KM := Lib.hid (KM.out.below hbz)
  have HZ := Lib.hid hZ
  have HS9 := Lib.hid hs9
  obtain ⟨⟨z0, z1⟩, _⟩ := rowN2 HZR.out
  rw [hZ, hs9] at z0 z1
  clear hZ hs9 hbz
  go_wp2_with fail
  rw [← HZ.out]
  clear HZ HS9 z0 z1 HZR
  refine (lwPts_same a9 a6 L.length k9 k6 (Ln.fl L) _ KM.out.at_ KL.out.at_ (by omega)).mono ?_
  rintro e w10 ⟨rfl, hb⟩
  replace OLD := Lib.hid (OLD.out.trans (hb.mono OLD.out.size))
  replace KV := Lib.hid (KV.out.below hb)
  replace HG := Lib.hid (HG.out.below hb)
  clear hb KM KL
  go_wp2_with fail
  refine (ncopy_any va n vk V _ KV.out.at_ (by omega) HVN.out).mono ?_
  rintro e w11 ⟨⟨g3, g3k, rfl, _, hcp⟩, hb⟩
  replace OLD := Lib.hid (OLD.out.trans (hb.mono OLD.out.size))
  replace KV := Lib.hid (KV.out.below hb)
  replace HG := Lib.hid (HG.out.below hb)
  have KP := Lib.hid hcp
  clear hcp hb
  go_wp2_with fail
  obtain ⟨M, hM⟩ : ∃ M, M = Hs.keep V n 0 := ⟨_, rfl⟩
  have HM0 : Hid (M = Hs.pack V 0 n) := by show M = _; rw [hM, Hs.keep_yes HOK.out.1 ⟨by omega, by omega⟩]
  have hM3 : M.length ≤ 300 := by rw [hM]; exact Hs.keep_len V n 0
  have HMK := Lib.hid hM
  clear hM
  refine (implPack_any _ n _ V 0 _ KP.out (by omega)).mono ?_
  rintro e w12 ⟨⟨a7, k7, rfl, hcy⟩, hb⟩
  replace OLD := Lib.hid (OLD.out.trans (hb.mono OLD.out.size))
  replace KV := Lib.hid (KV.out.below hb)
  replace HG := Lib.hid (HG.out.below hb)
  rw [← HMK.out] at hcy ⊢
  have KM := Lib.hid hcy
  have HUP : Hid (Hs.UpOk (Ln.fl M) M.length n) := by
    show Hs.UpOk _ _ _
    rw [HM0.out]
    have hp := Hs.pack_pos V 0 n (by have := HN0.out; omega)
    have h3 := HOK.out.1.1
    exact ⟨Hs.pack_right HOK.out.1 n (Nat.le_refl _), by omega, by omega, by omega⟩
  have HVL : Hid (∀ j, j < n → Hs.val (Ln.fl M) M.length j = V j) := fun j hj => by
    show Hs.look _ _ _ = _
    rw [HM0.out]
    exact Hs.val_pack HOK.out.1 hj
  clear hb hcy KP
  go_wp2_with fail
  refine (implUp_any a7 M.length k7 (Ln.fl M) n _ KM.out.at_ (by omega)).mono ?_
  rintro e w13 ⟨⟨a8, k8, rfl, hcy⟩, hb⟩
  replace OLD := Lib.hid (OLD.out.trans (hb.mono OLD.out.size))
  replace KV := Lib.hid (KV.out.below hb)
  replace HG := Lib.hid (HG.out.below hb)
  rw [Hs.cnt_yes HUP.out, Int.toNat_natCast] at hcy ⊢
  have KU := Lib.hid (hcy.congr (fun j hj => HVL.out j hj))
  clear hb hcy KM
  go_wp2_with fail
  refine (nsame_same a8 va n k8 vk V _ KU.out.at_ KV.out.at_ (by omega)).mono ?_
  rintro e w14 ⟨rfl, hb⟩
  replace OLD := Lib.hid (OLD.out.trans (hb.mono OLD.out.size))
  clear hb
  go_wp2_with fail
  go_ret
  exact ⟨rfl, OLD.out⟩
end Go.Proofs.YtmejmpdljckfgaaDoor
