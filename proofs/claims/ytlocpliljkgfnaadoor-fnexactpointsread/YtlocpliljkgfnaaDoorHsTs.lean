/-
  The model's PointsText.
-/
import Derived.Test.YtlocpliljkgfnaaDoorHsS1
import Derived.Test.YtlocpliljkgfnaaDoorHsPk
import Derived.Lib.ConvBytes
import Derived.Laws.BytesArg
import Derived.Laws.Concat
import Derived.Laws.IdiomStrings
namespace Go.Proofs.YtlocpliljkgfnaaDoor
open Go.RowKit Go.Deep

theorem hinfo_u8 : (Tryd.prog.info? 5).map (fun i => (i.zero, i.size, i.bytes)) = some (some (.int .u8 0), 1, 1) := by kernel_rfl
def bV (l : List UInt8) : List Value := l.map fun x : UInt8 => Value.int .u8 (x.toNat : Int)
theorem bV_app (l : List UInt8) (x : UInt8) : bV (l ++ [x]) = bV l ++ [.int .u8 (x.toNat : Int)] := by simp [bV]
theorem byte_cells {B : Nat} {v : Value} {l : List UInt8} {W : World} (h : W.ownsRow B 5 1 v l.length (bV l)) (hl : l ≠ []) : ∃ g k, v = .slice (some ⟨g, 0, none⟩) l.length k ∧ ∀ j (hj : j < l.length), W.cell? ⟨g, j, none⟩ = some (.int .u8 ((l[j]'hj).toNat : Int)) := by
  rcases h.2 with ⟨rfl, h2⟩ | ⟨g, cap, cur, rfl, e2, e3, e4, e5, e6, e7⟩
  · exact absurd (List.eq_nil_of_length_eq_zero h2) hl
  · refine ⟨g, cap, rfl, fun j hj => ?_⟩
    have h1 : (cur.toList.take (l.length * 1))[j]? = (bV l)[j]? := by rw [e7]
    rw [List.getElem?_take, if_pos (by omega), Array.getElem?_toList] at h1
    have e3' : W.heap[g]? = _ := e3
    simp [World.cell?, e3', h1, bV, hj]
theorem strs_back {W : World} {B : Nat} {v : Value} {l : List UInt8} (h : W.ownsRow B 5 1 v l.length (bV l)) (hl : l ≠ []) : (convert 29 9 v).run Tryd.prog W = .ok (.string ⟨l.toArray⟩) W := by
  obtain ⟨g, k, rfl, hc⟩ := byte_cells h hl
  exact run_convert_bytes_back (P := Tryd.prog) W 29 9 5 ⟨g, 0, none⟩ k l Tryd.underlying29 Tryd.underlying5 Tryd.underlying9 (fun j hj => by
    first
    | exact hc j hj
    | (rw [Addr.add_lit, Nat.zero_add]; exact hc j hj)
    | (have := hc j hj; simpa [Addr.add] using this))
theorem strs_all {W : World} {B : Nat} {v : Value} {l : List UInt8} (h : W.ownsRow B 5 1 v l.length (bV l)) : (convert 29 9 v).run Tryd.prog W = .ok (.string ⟨l.toArray⟩) W := by
  by_cases hl : l = []
  · subst hl
    rcases h.2 with ⟨rfl, h2⟩ | ⟨g, cap, cur, rfl, e2, e3, e4, e5, e6, e7⟩
    · exact run_convert_bytes_nil W 29 5 Tryd.underlying29 Tryd.underlying5 0 0 9 Tryd.underlying9
    · exact run_convert_bytes_back (P := Tryd.prog) W 29 9 5 ⟨g, 0, none⟩ cap [] Tryd.underlying29 Tryd.underlying5 Tryd.underlying9 (fun j hj => absurd hj (Nat.not_lt_zero _))
  · exact strs_back h hl
set_option maxRecDepth 100000 in
set_option maxHeartbeats 4000000 in
theorem specNum_any (K : Nat) (w : World) (hK : K ≤ 4000000) :
    Calls Tryd.prog 30 #[.int .i64 (K : Nat)] w fun e w' => e = .returned (.string ⟨(Hs.num K).toArray⟩) ∧ Below w.heap.size w w' := by
  obtain ⟨i0, hi0, hz0, hz1, hz2⟩ := info_parts hinfo_u8
  obtain ⟨W, hW⟩ : ∃ W, W = w.alloc (.cells #[] 5) := ⟨_, rfl⟩
  have HO0 : Hid (W.ownsRow w.heap.size 5 1 (.slice (some ⟨w.heap.size, 0, none⟩) 0 0) ([] : List UInt8).length (bV [])) := by
    show World.ownsRow _ _ _ _ _ _ _
    rw [hW]
    exact World.ownsRow_made (e := 5) (size := 1) w #[] 0 (Nat.le_refl _) (Nat.zero_le _) rfl
  have HB0 : Hid (Below w.heap.size w W) := by show Below _ _ _; rw [hW]; exact nbel_alloc _ _
  have HW := Lib.hid hW
  clear hW
  go_enter Tryd.func30, Tryd.ntmps30
  go_wp2_with fail
  rw [← HW.out]
  clear HW
  go_loopw [0, 3] (fun kv lv wr => ∃ (k : Nat) (l : List UInt8), k ≤ 4000000 ∧ kv = .int .i64 (k : Nat) ∧ Hid (Hs.num K = l ++ Hs.num k) ∧ Hid (l.length + (Hs.num k).length ≤ 4) ∧ Hid (wr.ownsRow w.heap.size 5 1 lv l.length (bV l)) ∧ Hid (Below w.heap.size w wr)) (fun kv _ _ => (intOf kv).toNat)
  case atStart => exact ⟨K, [], hK, rfl, rfl, by show 0 + _ ≤ 4; have := Hs.num_len (n := K) 4 (by omega) (by omega); omega, HO0, HB0⟩
  case round =>
    obtain ⟨k, l, hk, rfl, hN, hL, hO, hB⟩ := hrel
    clear HO0 HB0
    by_cases hlt : 128 ≤ k
    · have hltz : (128 : Int) ≤ (k : Int) := by omega
      have hm : (k : Int).tmod 128 = ((k % 128 : Nat) : Int) := by rw [Int.tmod_eq_emod_of_nonneg (by omega)]; omega
      have hd : (k : Int).tdiv 128 = ((k / 128 : Nat) : Int) := by rw [Int.tdiv_eq_ediv_of_nonneg (by omega)]; omega
      have hnb := Hs.num_big (n := k) (by omega)
      have HN2 : Hid (Hs.num K = (l ++ [UInt8.ofNat (k % 128 + 128)]) ++ Hs.num (k / 128)) := by show _ = _; rw [hN.out, hnb]; simp
      have HL2 : Hid ((l ++ [UInt8.ofNat (k % 128 + 128)]).length + (Hs.num (k / 128)).length ≤ 4) := by show _ ≤ _; have := hL.out; rw [hnb] at this; simp at this ⊢; omega
      obtain ⟨x, hx⟩ : ∃ x, x = k % 128 := ⟨_, rfl⟩
      obtain ⟨y, hy⟩ : ∃ y, y = k / 128 := ⟨_, rfl⟩
      have hx0 : x < 128 := by omega
      have hyk : y < k := by omega
      have hyb : y ≤ 4000000 := by omega
      rw [← hx] at hm HN2 HL2
      rw [← hy] at hd HN2 HL2
      have hb8 : ((UInt8.ofNat (x + 128)).toNat : Int) = (x : Int) + 128 := by simp; omega
      have hu8 : IntKind.u8.wrap ((x : Int) + 128) = (x : Int) + 128 := by simp [IntKind.wrap, IntKind.bits, IntKind.signed]; omega
      have hll : l.length ≤ 4 := by have := hL.out; omega
      have hsz := hB.out.size
      clear hx hy hnb hN hL
      go_wp2_with (at_builtin; refine wpList_append_own _ rfl _ _ 29 rfl w.heap.size 5 i0 (.int .u8 0) 1 1 Tryd.underlying29 hi0 hz0 hz1 hz2 rfl (by decide) _ _ _ rfl (hO.out.alloc _) ⟨wr.heap.size, 0, none⟩ 1 1 [.int .u8 ((x : Int) + 128)] rfl rfl ?c1 ?c2 ?c3 ?c4 ?c5 ?_)
      case c1 =>
        intro j u hj
        match j, hj with
        | 0, hj => simp at hj; subst hj; simp [Addr.add]
      case c2 => intro u hu; simp at hu; subst hu; rfl
      case c3 => unfold maxLen; omega
      case c4 => omega
      case c5 => simp; omega
      intro v' w2 hown hgrow hnil
      have HB2 : Hid (Below w.heap.size w w2) := (hB.out.alloc hB.out.size _).grown hgrow (by simp; omega) (fun k e => (hO.out.lt k e).1)
      have HO2 : Hid (w2.ownsRow w.heap.size 5 1 v' (l ++ [UInt8.ofNat (x + 128)]).length (bV (l ++ [UInt8.ofNat (x + 128)]))) := by
        show World.ownsRow _ _ _ _ _ _ _
        rw [bV_app, hb8, List.length_append]
        exact hown
      clear hown hgrow hnil hO hB
      go_wp2_with fail
      go_roundw
      case rel => exact ⟨y, _, hyb, rfl, HN2, HL2, HO2, HB2⟩
      case measure => simp [intOf]; omega
    · have hltz : ¬ (128 : Int) ≤ (k : Int) := by omega
      have hns := Hs.num_small (n := k) (by omega)
      have HN2 : Hid (Hs.num K = l ++ [UInt8.ofNat k]) := by show _ = _; rw [hN.out, hns]
      have hb8 : ((UInt8.ofNat k).toNat : Int) = (k : Int) := by simp; omega
      have hu8 : IntKind.u8.wrap (k : Int) = (k : Int) := by simp [IntKind.wrap, IntKind.bits, IntKind.signed]; omega
      have hll : l.length ≤ 4 := by have := hL.out; omega
      have hsz := hB.out.size
      clear hns hN hL
      go_wp2_with (at_builtin; refine wpList_append_own _ rfl _ _ 29 rfl w.heap.size 5 i0 (.int .u8 0) 1 1 Tryd.underlying29 hi0 hz0 hz1 hz2 rfl (by decide) _ _ _ rfl (hO.out.alloc _) ⟨wr.heap.size, 0, none⟩ 1 1 [.int .u8 (k : Int)] rfl rfl (fun j u hj => by match j, hj with | 0, hj => simp at hj; subst hj; simp [Addr.add]) ?c2 ?c3 ?c4 ?c5 ?_)
      case c2 => first | rfl | (intro u hu; simp at hu; subst hu; rfl)
      case c3 => unfold maxLen; omega
      case c4 => omega
      case c5 => first | omega | (simp; omega)
      intro v' w2 hown hgrow hnil
      have HB2 : Hid (Below w.heap.size w w2) := (hB.out.alloc hB.out.size _).grown hgrow (by simp; omega) (fun k e => (hO.out.lt k e).1)
      have hO2 : w2.ownsRow w.heap.size 5 1 v' (l ++ [UInt8.ofNat k]).length (bV (l ++ [UInt8.ofNat k])) := by
        rw [bV_app, hb8, List.length_append]
        exact hown
      have hcv := strs_back hO2 (by simp)
      clear hown hgrow hnil hO hB hO2
      go_wp2_with fail
      go_ret
      exact ⟨by rw [HN2.out]; rfl, HB2.out⟩
set_option maxRecDepth 100000 in
set_option maxHeartbeats 8000000 in
theorem specTx_any (la : Option Addr) (n cap : Nat) (F : Nat → Int) (w : World) (h : IsAt la (n * 2) F w) (hn : n ≤ 1048576) :
    Calls Tryd.prog 15 #[.slice la n cap] w fun e w' => e = .returned (.string ⟨(Hs.text F n).toArray⟩) ∧ Below w.heap.size w w' := by
  have H := Lib.hid h
  clear h
  go_enter Tryd.func15, Tryd.ntmps15
  go_wp2_with fail
  refine (specPR_any la n cap F w H.out hn).mono ?_
  rintro e w1 ⟨rfl, hb⟩
  have HB1 := Lib.hid hb.bel
  clear hb
  by_cases cr : Hs.Right F n
  case neg =>
    have HE := Lib.hid (Hs.text_no cr)
    rw [Mt.dB_ff cr]
    clear cr
    go_wp2_with fail
    go_ret
    exact ⟨by rw [HE.out]; rfl, HB1.out⟩
  rw [Mt.dB_tt cr]
  have HR := Lib.hid cr
  have HE := Lib.hid (Hs.text_yes cr)
  have hn3 := cr.1
  clear cr
  go_wp2_with fail
  go_loopw [3, 4, 5, 6, 7, 8] (fun tv av vv iv _ _ wr => ∃ (i : Nat) (T : ByteArray), i ≤ n ∧ iv = .int .i64 i ∧ tv = .string T ∧ av = .int .i64 (Hs.pa F i) ∧ vv = .int .i64 (Hs.pv F i) ∧ Hid (T = ⟨(Hs.cat F i).toArray⟩) ∧ Hid (Below w.heap.size w wr)) (fun _ _ _ iv _ _ _ => n - (intOf iv).toNat)
  case atStart => exact ⟨0, _, Nat.zero_le _, rfl, rfl, rfl, rfl, rfl, HB1⟩
  case round =>
    obtain ⟨i, T, hi, rfl, rfl, rfl, rfl, hT, hB⟩ := hrel
    clear HB1
    by_cases hlt : i < n
    · have hltz : (i : Int) < (n : Int) := by omega
      obtain ⟨b, e, k0, k1⟩ := (H.out.below hB.out).at2 hlt
      subst e
      have hi0 := HR.out.in_ hlt
      have hda := HR.out.da hlt
      have hdv := HR.out.dv hlt
      have hfo := Hs.fold_in hdv
      have HTN : Hid (Hs.cat F (i + 1) = Hs.cat F i ++ (Hs.num (Hs.da F i) ++ Hs.num (Hs.dv F i))) := rfl
      have hTz : T.size ≤ 6 * i := by rw [hT.out]; exact Hs.cat_len HR.out i (by omega)
      have hN1 : (Hs.num (Hs.da F i)).length ≤ 2 := Hs.num_len 2 (by unfold Hs.da; omega) (by omega)
      have hN2 : (Hs.num (Hs.dv F i)).length ≤ 4 := Hs.num_len 4 (by unfold Hs.dv; omega) (by omega)
      have HPA := Lib.hid (Hs.pa_succ F i)
      have HPV := Lib.hid (Hs.pv_succ F i)
      have eda : F (i * 2) - Hs.pa F i = ((Hs.da F i : Nat) : Int) := by unfold Hs.da; omega
      have edv : Hs.fold (F (i * 2 + 1) - Hs.pv F i) = ((Hs.dv F i : Nat) : Int) := by unfold Hs.dv; omega
      have hdl : Hs.da F i ≤ 4000000 := by unfold Hs.da; omega
      have hvl : Hs.dv F i ≤ 4000000 := by unfold Hs.dv; omega
      obtain ⟨D1, hD1⟩ : ∃ x, x = Hs.da F i := ⟨_, rfl⟩
      obtain ⟨D2, hD2⟩ : ∃ x, x = Hs.dv F i := ⟨_, rfl⟩
      obtain ⟨x, hx⟩ : ∃ x, x = F (i * 2) := ⟨_, rfl⟩
      obtain ⟨y, hy⟩ : ∃ x, x = F (i * 2 + 1) := ⟨_, rfl⟩
      obtain ⟨pa, hpa⟩ : ∃ x, x = Hs.pa F i := ⟨_, rfl⟩
      obtain ⟨pv, hpv⟩ : ∃ x, x = Hs.pv F i := ⟨_, rfl⟩
      rw [← hD1] at HTN hN1 eda hdl
      rw [← hD2] at HTN hN2 edv hvl
      rw [← hx] at k0 hi0 hda eda HPA
      rw [← hy] at k1 hi0 hdv edv HPV
      rw [← hpa] at hda eda ⊢
      rw [← hpv] at hdv edv ⊢
      clear hD1 hD2 hx hy hpa hpv hfo
      obtain ⟨d, hd⟩ : ∃ d, d = y - pv := ⟨_, rfl⟩
      have hdd : y - pv = d := hd.symm
      rw [hdd] at edv hdv
      have hw1 : IntKind.i64.wrap d = d := Hs.wrapid (by omega) (by omega)
      have hw2 : IntKind.i64.wrap (2 * d) = 2 * d := Hs.wrapid (by omega) (by omega)
      have hw3 : IntKind.i64.wrap (-2 * d) = -2 * d := Hs.wrapid (by omega) (by omega)
      have hw4 : IntKind.i64.wrap (-2 * d - 1) = -2 * d - 1 := Hs.wrapid (by omega) (by omega)
      have HD := Lib.hid hd
      obtain ⟨S1, hS1⟩ : ∃ S : ByteArray, S = ⟨(Hs.num D1).toArray⟩ := ⟨_, rfl⟩
      obtain ⟨S2, hS2⟩ : ∃ S : ByteArray, S = ⟨(Hs.num D2).toArray⟩ := ⟨_, rfl⟩
      have hz1 : S1.size ≤ 2 := by rw [hS1]; exact hN1
      have hz2 : S2.size ≤ 4 := by rw [hS2]; exact hN2
      have q1 : T.size + S1.size ≤ 9223372036854775807 := by omega
      have q2 : T.size + S1.size + S2.size ≤ 9223372036854775807 := by omega
      have HT2 : Hid (T ++ S1 ++ S2 = ⟨(Hs.cat F (i + 1)).toArray⟩) := by
        show _ = _
        rw [HTN.out, hT.out, hS1, hS2, ByteArray.mk_append_mk, ByteArray.mk_append_mk, List.append_assoc]
      have HS1 := Lib.hid hS1
      have HS2 := Lib.hid hS2
      clear hd hN1 hN2 hTz HTN hT hS1 hS2
      by_cases hneg : d < 0
      · have edw : -2 * d - 1 = ((D2 : Nat) : Int) := by rw [← edv]; unfold Hs.fold; rw [if_pos hneg]
        clear edv hw2
        go_wp2_with fail
        refine (specNum_any D1 wr hdl).mono ?_
        rintro e w2 ⟨rfl, hb⟩
        rw [← HS1.out]
        have HB2 : Hid (Below w.heap.size w w2) := hB.out.trans (hb.mono hB.out.size)
        have k02 : w2.cell? ⟨b, i * 2, none⟩ = some (.int .i64 x) := (hb.cell (World.block_lt_of_cell? _ _ k0)).trans k0
        have k12 : w2.cell? ⟨b, i * 2 + 1, none⟩ = some (.int .i64 y) := (hb.cell (World.block_lt_of_cell? _ _ k1)).trans k1
        clear hb k0 k1 hB
        go_wp2_with fail
        refine (specNum_any D2 w2 hvl).mono ?_
        rintro e w3 ⟨rfl, hb⟩
        rw [← HS2.out]
        have HB3 : Hid (Below w.heap.size w w3) := HB2.out.trans (hb.mono HB2.out.size)
        have k03 : w3.cell? ⟨b, i * 2, none⟩ = some (.int .i64 x) := (hb.cell (World.block_lt_of_cell? _ _ k02)).trans k02
        have k13 : w3.cell? ⟨b, i * 2 + 1, none⟩ = some (.int .i64 y) := (hb.cell (World.block_lt_of_cell? _ _ k12)).trans k12
        clear hb k02 k12 HB2
        go_wp2_with fail
        go_roundw
        case rel => exact ⟨i + 1, _, by omega, by go_num, rfl, by rw [HPA.out], by rw [HPV.out], HT2, HB3⟩
        case measure => simp [intOf]; omega
      · have edw : 2 * d = ((D2 : Nat) : Int) := by rw [← edv]; unfold Hs.fold; rw [if_neg hneg]
        clear edv hw3 hw4
        go_wp2_with fail
        refine (specNum_any D1 wr hdl).mono ?_
        rintro e w2 ⟨rfl, hb⟩
        rw [← HS1.out]
        have HB2 : Hid (Below w.heap.size w w2) := hB.out.trans (hb.mono hB.out.size)
        have k02 : w2.cell? ⟨b, i * 2, none⟩ = some (.int .i64 x) := (hb.cell (World.block_lt_of_cell? _ _ k0)).trans k0
        have k12 : w2.cell? ⟨b, i * 2 + 1, none⟩ = some (.int .i64 y) := (hb.cell (World.block_lt_of_cell? _ _ k1)).trans k1
        clear hb k0 k1 hB
        go_wp2_with fail
        refine (specNum_any D2 w2 hvl).mono ?_
        rintro e w3 ⟨rfl, hb⟩
        rw [← HS2.out]
        have HB3 : Hid (Below w.heap.size w w3) := HB2.out.trans (hb.mono HB2.out.size)
        have k03 : w3.cell? ⟨b, i * 2, none⟩ = some (.int .i64 x) := (hb.cell (World.block_lt_of_cell? _ _ k02)).trans k02
        have k13 : w3.cell? ⟨b, i * 2 + 1, none⟩ = some (.int .i64 y) := (hb.cell (World.block_lt_of_cell? _ _ k12)).trans k12
        clear hb k02 k12 HB2
        go_wp2_with fail
        go_roundw
        case rel => exact ⟨i + 1, _, by omega, by go_num, rfl, by rw [HPA.out], by rw [HPV.out], HT2, HB3⟩
        case measure => simp [intOf]; omega
    · obtain rfl : i = n := by omega
      obtain rfl := hT.out
      go_wp2_with fail
      go_ret
      exact ⟨by rw [HE.out]; rfl, hB.out⟩
end Go.Proofs.YtlocpliljkgfnaaDoor
