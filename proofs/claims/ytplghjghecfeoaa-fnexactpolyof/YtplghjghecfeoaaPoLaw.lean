/-
  The law FnExactPolyOf.
-/
import Derived.Test.YtplghjghecfeoaaPoEx
namespace Go.Proofs.Ytplghjghecfeoaa
open Go.RowKit Go.Deep

attribute [local go_sem] lrun_store_float lrun_store_complex
theorem OwnC.at2 {B : Nat} {a : Option Addr} {n m k : Nat} {c : Nat → Nat × Nat} {W : World} (h : OwnC B (.slice a n k) m c W) : CnAt a m c W := by
  obtain ⟨a', k', e', hA⟩ := OwnC.sl h
  injection e' with e1 e2 e3
  rw [e1]
  exact hA
set_option maxRecDepth 100000 in
set_option maxHeartbeats 8000000 in
theorem polyOf_law (w : World) (a : Option Addr) (n k : Nat) (f : (Nat → Nat) × (Nat → Nat)) (h : CnIn a n f.1 f.2 w) (hu : n ≤ 9223372036854775807) :
    Calls Try.prog 8 #[.slice a n k] w fun e w' => e = .returned (.bool true) ∧ Below w.heap.size w w' := by
  have HU0 := Lib.hid hu
  have H0 := Lib.hid h
  clear h hu
  go_enter Try.func8, Try.ntmps8
  go_wp2_with fail
  refine (szCns_any a n k _ HU0.out).mono ?_
  rintro e w0 ⟨hz, hw0⟩
  rw [hw0]
  clear hw0
  rcases hz with ⟨z, rfl, hz⟩ | ⟨hn, rfl⟩
  · go_wp2_with fail
    go_ret
    exact ⟨rfl, Below.refl _ _⟩
  have h := H0.out
  clear H0 HU0
  have hzz : ¬ (1048576 : Int) - (n : Int) < 0 := by omega
  obtain ⟨r, hr⟩ : ∃ r, r = f.1 := ⟨_, rfl⟩
  obtain ⟨s, hs⟩ : ∃ s, s = f.2 := ⟨_, rfl⟩
  rw [← hr, ← hs] at h
  clear hr hs
  have HI := Lib.hid h
  have HN := Lib.hid hn
  have HB : Hid (Below w.heap.size w w) := Below.refl _ _
  have HM : Hid (Fl.pofLen r s n ≤ 1048576) := by
    show _ ≤ _
    unfold Fl.pofLen
    split
    · rename_i hh; omega
    · omega
  have HSP : Hid (∀ a' k' wx, CnAt a' n (fun i => (r i, s i)) wx → Calls Try.prog 26 #[.slice a' n k'] wx fun e w' => (∃ v, e = .returned v ∧ OwnC wx.heap.size v (Fl.pofLen r s n) (Fl.pf r s n) w') ∧ Below wx.heap.size wx w') := fun a' k' wx hx => specPof_any a' n k' r s wx hx (by omega)
  have HIM : Hid (∀ a' k' wx, CnAt a' n (fun i => (r i, s i)) wx → Calls Try.prog 28 #[.slice a' n k'] wx fun e w' => (∃ v, e = .returned v ∧ OwnC wx.heap.size v (Fl.pofLen r s n) (Fl.pf r s n) w') ∧ Below wx.heap.size wx w') := fun a' k' wx hx => implPof_any a' n k' r s wx hx (by omega)
  generalize Fl.pofLen r s n = m at HM HSP HIM
  generalize Fl.pf r s n = F at HSP HIM
  obtain ⟨c, hc⟩ : ∃ c : Nat → Nat × Nat, c = fun i => (r i, s i) := ⟨_, rfl⟩
  have HTO : Hid (∀ wx, CnIn a n r s wx → Calls Try.prog 27 #[.slice a n k] wx fun e w' => e = .returned (.slice (some ⟨wx.heap.size, 0, none⟩) n n) ∧ OwnC wx.heap.size (.slice (some ⟨wx.heap.size, 0, none⟩) n n) n c w' ∧ Below wx.heap.size wx w') := fun wx hx => by rw [hc]; exact toCns_own a n k r s wx hx HN.out
  rw [← hc] at HSP HIM
  obtain ⟨Q, hQ⟩ : ∃ Q : Nat, Q = 1 + m * 2 := ⟨_, rfl⟩
  have HQ0 : ¬ (Q : Int) < 0 := by omega
  have HMK : Hid (∀ B v wx, OwnC B v m F wx → Calls Try.prog 30 #[v, .int .i64 1] wx fun e w' => e = .returned (.int .i64 (Q : Int)) ∧ OwnC B v m (pmk 1) w' ∧ wx.grownBy w' v.ownBlock) := fun B v wx ho => by rw [hQ]; exact markCns_any B v m 1 F wx ho HM.out (by omega)
  have HHD : Hid (∀ B v wx, OwnC B v m (pmk 1) wx → Calls Try.prog 31 #[v, .int .i64 1] wx fun e w' => e = .returned (.int .i64 (Q : Int)) ∧ Below wx.heap.size wx w') := fun B v wx ho => by rw [hQ]; exact heldCns_any B v m 1 wx ho HM.out (by omega)
  obtain ⟨K, hK⟩ : ∃ K : Nat, K = 1 + n * 2 := ⟨_, rfl⟩
  have HK0 : ¬ (K : Int) < 0 := by omega
  have HMX : Hid (∀ B g' wx, OwnC B (.slice (some ⟨g', 0, none⟩) n n) n c wx → Calls Try.prog 30 #[.slice (some ⟨g', 0, none⟩) n n, .int .i64 1] wx fun e w' => e = .returned (.int .i64 (K : Int)) ∧ wx.grownBy w' (some g')) := fun B g' wx ho => (by rw [hK]; exact (markCns_any B _ n 1 c wx ho HN.out (by omega)).mono (fun e w' hh => ⟨hh.1, hh.2.2⟩))
  clear h hn hQ hK hc
  go_wp2_with fail
  refine (HTO.out _ (HI.out.below HB.out)).mono ?_
  rintro e w2 ⟨rfl, hown, hb⟩
  have HX0 := Lib.hid hown
  clear hown
  replace HB : Hid (Below w.heap.size w w2) := HB.out.trans (hb.mono HB.out.size)
  clear hb
  go_wp2_with fail
  refine (HSP.out _ _ _ (OwnC.at2 HX0.out)).mono ?_
  rintro e w3 ⟨⟨v, rfl, hT⟩, hb⟩
  obtain ⟨va, vk, e1, _⟩ := OwnC.sl hT
  subst e1
  have TV := Lib.hid hT
  clear hT HX0
  replace HB : Hid (Below w.heap.size w w3) := HB.out.trans (hb.mono HB.out.size)
  clear hb
  go_wp2_with fail
  have HV3 : Hid (∀ q, (Value.slice va m vk).ownBlock = some q → q < w3.heap.size) := fun q hq => (World.ownsRow.lt TV.out q hq).2
  refine (HTO.out _ (HI.out.below HB.out)).mono ?_
  rintro e w4 ⟨rfl, hown, hb⟩
  have HXO := Lib.hid hown
  clear hown
  obtain ⟨gx, hgx⟩ : ∃ gx, gx = w3.heap.size := ⟨_, rfl⟩
  rw [← hgx] at HXO HV3 ⊢
  have HWX : Hid (w.heap.size ≤ gx) := by show _ ≤ _; rw [hgx]; exact HB.out.size
  clear hgx
  replace HB : Hid (Below w.heap.size w w4) := HB.out.trans (hb.mono HB.out.size)
  replace TV := Lib.hid (OwnC.below TV.out hb)
  clear hb
  go_wp2_with fail
  have HGX4 : Hid (gx < w4.heap.size) := (World.ownsRow.lt HXO.out gx rfl).2
  refine (HIM.out _ _ _ (OwnC.at2 HXO.out)).mono ?_
  rintro e w5 ⟨⟨v, rfl, hT⟩, hb⟩
  obtain ⟨ua, uk, e1, _⟩ := OwnC.sl hT
  subst e1
  have TU := Lib.hid hT
  have HU : Hid (∀ q, (Value.slice ua m uk).ownBlock = some q → gx < q) := fun q hq => by have h1 := (World.ownsRow.lt hT q hq).1; have h2 := HGX4.out; omega
  clear hT
  replace HB : Hid (Below w.heap.size w w5) := HB.out.trans (hb.mono HB.out.size)
  replace TV := Lib.hid (OwnC.below TV.out hb)
  replace HXO := Lib.hid (OwnC.below HXO.out hb)
  clear hb
  go_wp2_with fail
  refine (eqCns_same _ _ m _ _ F _ (OwnC.at2 TU.out) (OwnC.at2 TV.out) HM.out).mono ?_
  rintro e w6 ⟨rfl, hb⟩
  replace HB : Hid (Below w.heap.size w w6) := HB.out.trans (hb.mono HB.out.size)
  replace TV := Lib.hid (OwnC.below TV.out hb)
  replace HXO := Lib.hid (OwnC.below HXO.out hb)
  replace TU := Lib.hid (OwnC.below TU.out hb)
  clear hb
  go_wp2_with fail
  refine (HTO.out _ (HI.out.below HB.out)).mono ?_
  rintro e w7 ⟨rfl, hown, hb⟩
  have HXN := Lib.hid hown
  clear hown
  replace HB : Hid (Below w.heap.size w w7) := HB.out.trans (hb.mono HB.out.size)
  replace TV := Lib.hid (OwnC.below TV.out hb)
  replace HXO := Lib.hid (OwnC.below HXO.out hb)
  replace TU := Lib.hid (OwnC.below TU.out hb)
  clear hb
  go_wp2_with fail
  refine (eqCns_same _ _ n n n c _ (OwnC.at2 HXO.out) (OwnC.at2 HXN.out) HN.out).mono ?_
  rintro e w8 ⟨rfl, hb⟩
  replace HB : Hid (Below w.heap.size w w8) := HB.out.trans (hb.mono HB.out.size)
  replace TV := Lib.hid (OwnC.below TV.out hb)
  replace HXO := Lib.hid (OwnC.below HXO.out hb)
  replace TU := Lib.hid (OwnC.below TU.out hb)
  clear hb
  clear HXN
  go_wp2_with fail
  refine (HMX.out _ _ _ HXO.out).mono ?_
  rintro e wa ⟨rfl, hgr⟩
  replace TV := Lib.hid (OwnC.only TV.out hgr (fun q hq e => by have h1 := HV3.out q hq; injection e with e; omega))
  replace TU := Lib.hid (OwnC.only TU.out hgr (fun q hq e => by have h1 := HU.out q hq; injection e with e; omega))
  replace HB : Hid (Below w.heap.size w wa) := HB.out.trans (grown_below hgr (fun q hq => by injection hq with hq; have := HWX.out; omega) HB.out.size)
  clear hgr HXO
  go_wp2_with fail
  refine (eqCns_same _ _ m _ _ F _ (OwnC.at2 TU.out) (OwnC.at2 TV.out) HM.out).mono ?_
  rintro e wb ⟨rfl, hb⟩
  replace HB : Hid (Below w.heap.size w wb) := HB.out.trans (hb.mono HB.out.size)
  replace TV := Lib.hid (OwnC.below TV.out hb)
  replace TU := Lib.hid (OwnC.below TU.out hb)
  clear hb
  go_wp2_with fail
  refine (HMK.out _ _ _ TU.out).mono ?_
  rintro e wd ⟨rfl, hT, hgr⟩
  replace TV := Lib.hid (OwnC.only TV.out hgr (fun q hq e => by have h1 := HV3.out q hq; have h2 := HU.out q e; omega))
  replace HB : Hid (Below w.heap.size w wd) := HB.out.trans (grown_below hgr (fun q hq => by have h1 := HU.out q hq; have := HWX.out; omega) HB.out.size)
  replace TU := Lib.hid hT
  clear hgr hT
  go_wp2_with fail
  refine (HHD.out _ _ _ TU.out).mono ?_
  rintro e we ⟨rfl, hb⟩
  replace HB : Hid (Below w.heap.size w we) := HB.out.trans (hb.mono HB.out.size)
  replace TV := Lib.hid (OwnC.below TV.out hb)
  replace TU := Lib.hid (OwnC.below TU.out hb)
  clear hb
  go_wp2_with fail
  refine (HTO.out _ (HI.out.below HB.out)).mono ?_
  rintro e wg ⟨rfl, hown, hb⟩
  have HXN := Lib.hid hown
  clear hown
  replace HB : Hid (Below w.heap.size w wg) := HB.out.trans (hb.mono HB.out.size)
  replace TV := Lib.hid (OwnC.below TV.out hb)
  replace TU := Lib.hid (OwnC.below TU.out hb)
  clear hb
  go_wp2_with fail
  refine (HIM.out _ _ _ (OwnC.at2 HXN.out)).mono ?_
  rintro e wh ⟨⟨v, rfl, hT⟩, hb⟩
  obtain ⟨ya, yk, e1, _⟩ := OwnC.sl hT
  subst e1
  have TY := Lib.hid hT
  clear hT HXN
  replace HB : Hid (Below w.heap.size w wh) := HB.out.trans (hb.mono HB.out.size)
  replace TV := Lib.hid (OwnC.below TV.out hb)
  replace TU := Lib.hid (OwnC.below TU.out hb)
  clear hb
  go_wp2_with fail
  refine (eqCns_same _ _ m _ _ F _ (OwnC.at2 TY.out) (OwnC.at2 TV.out) HM.out).mono ?_
  rintro e wi ⟨rfl, hb⟩
  replace HB : Hid (Below w.heap.size w wi) := HB.out.trans (hb.mono HB.out.size)
  replace TV := Lib.hid (OwnC.below TV.out hb)
  replace TU := Lib.hid (OwnC.below TU.out hb)
  replace TY := Lib.hid (OwnC.below TY.out hb)
  clear hb
  clear TY
  go_wp2_with fail
  refine (HHD.out _ _ _ TU.out).mono ?_
  rintro e wj ⟨rfl, hb⟩
  replace HB : Hid (Below w.heap.size w wj) := HB.out.trans (hb.mono HB.out.size)
  replace TV := Lib.hid (OwnC.below TV.out hb)
  replace TU := Lib.hid (OwnC.below TU.out hb)
  clear hb
  go_wp2_with fail
  go_ret
  exact ⟨rfl, HB.out⟩
end Go.Proofs.Ytplghjghecfeoaa
