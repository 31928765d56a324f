/-
  A push into a filling.
-/
import Derived.Test.YtjmnehlgefpheaaDoorTbP1
import Derived.Test.YtjmnehlgefpheaaDoorTbTab
import Derived.Test.YtjmnehlgefpheaaDoorWkErr
namespace Go.Proofs.YtjmnehlgefpheaaDoor
open Go.RowKit Go.Deep

theorem own_low {B B' n s : Nat} {t : TypeId} {v : Value} {xs : List Value} {W : World} (h : W.ownsRow B t s v n xs) (hb : B' ≤ B) : W.ownsRow B' t s v n xs := by
  refine ⟨h.1, ?_⟩
  rcases h.2 with h2 | ⟨g, cap, cur, e1, e2, e3⟩
  · exact Or.inl h2
  · exact Or.inr ⟨g, cap, cur, e1, Nat.le_trans hb e2, e3⟩
/-- What a push tells. -/
def PuEnd (B h : Nat) (G : Nat → Nat) (Q : List Tb.Pc) (p : Tb.Pc) (w : World) (e : Ending) (w' : World) : Prop :=
  (¬ Tb.Ok p ∧ ∃ s, e = .returned (.tuple #[.slice none 0 0, errV s 1])) ∨
  (Tb.Ok p ∧ 60 < (Tb.psh Q p).2.length ∧ ∃ s, e = .returned (.tuple #[.slice none 0 0, errV s 5])) ∨
  (Tb.Ok p ∧ (Tb.psh Q p).2.length ≤ 60 ∧ ∃ v, e = .returned (.tuple #[v, .nilIface]) ∧ w'.ownsRow w.heap.size 38 3 v (Tb.psh Q p).1.length (pv (Tb.psh Q p).1) ∧ ∃ G', Que B h G' (Tb.psh Q p).2 w' ∧ ∀ k, k < w.heap.size → inQ h G' (Tb.psh Q p).2.length k → inQ h G Q.length k)
set_option maxRecDepth 100000 in
set_option maxHeartbeats 8000000 in
theorem push_any (B h : Nat) (G : Nat → Nat) (Q : List Tb.Pc) (r : Int) (p : Tb.Pc) (w : World) (u : Que B h G Q w) (hF : Tb.Fill r Q) (hB : B ≤ w.heap.size) :
    Calls Tryd.prog 45 #[.pointer (some ⟨h, 0, none⟩), pcV p] w fun e w' => PuEnd B h G Q p w e w' ∧ OnlyP (inQ h G Q.length) w w' := by
  obtain ⟨W, hW⟩ : ∃ W, W = w.alloc (.cells #[.int .i64 p.w, .int .i64 p.g, .int .i64 p.b] 38) := ⟨_, rfl⟩
  have HR : Hid (W.rowIs w.heap.size 38 3 (rowN (pcL p))) := by show W.rowIs _ _ _ _; rw [hW]; exact rowN_alloc w _ _
  have hb0 : Below w.heap.size w W := by rw [hW]; exact nbel_alloc _ _
  have HU := Lib.hid (u.below hb0)
  have HLT : Hid (∀ k, inQ h G Q.length k → k < w.heap.size) := fun k hk => (u.lt hk).2
  have HB0 := Lib.hid hb0
  have HW := Lib.hid hW
  have HF := Lib.hid hF
  have HBB := Lib.hid hB
  have HLQ : Hid (Q.length ≤ 60) := hF.1.2
  clear hW hb0 u hF hB
  obtain ⟨⟨x0, x1, x2⟩, _⟩ := rowN3 HR.out
  rw [HW.out] at x0 x1 x2
  go_enter Tryd.func45, Tryd.ntmps45
  go_wp2_with fail
  rw [← HW.out]
  clear HW x0 x1 x2
  refine (parcelRight_any p _).mono ?_
  rintro e w1 ⟨⟨b1, rfl, hb1⟩, hb⟩
  have K1 := Lib.hid hb1
  have HR1 := Lib.hid (nrow_below HR.out hb)
  have HU1 := Lib.hid (HU.out.below hb)
  have HB1 : Hid (Below w.heap.size w w1) := HB0.out.trans (hb.mono HB0.out.size)
  clear hb1 hb HR HU HB0
  obtain ⟨⟨x0, x1, x2⟩, _⟩ := rowN3 HR1.out
  rcases b1 with _ | _
  · go_wp2_with fail
    exact bodyPost_ret (v := .tuple #[.slice none 0 0, errV ⟨#[97, 32, 112, 97, 114, 99, 101, 108, 32, 116, 111, 32, 112, 117, 115, 104]⟩ 1]) (by simp [results, Tryd.results45, go_sem]) rfl ⟨Or.inl ⟨fun h => (by have := K1.out.2 h; cases this), _, rfl⟩, OnlyP.of_below HB1.out⟩
  have HOK : Hid (Tb.Ok p) := K1.out.1 rfl
  clear K1
  go_wp2_with fail
  refine (putOn_any B h G Q p _ HU1.out (Nat.le_trans HBB.out HB1.out.size) (by have := HLQ.out; omega)).mono ?_
  rintro e w2 ⟨rfl, hq2, ho2⟩
  have HR2 := Lib.hid (ho2.row HR1.out (fun hi => by have := HLT.out _ hi; omega))
  have HQ2 := Lib.hid hq2
  have HO2 : Hid (OnlyP (inQ h G Q.length) w w2) := (OnlyP.of_below HB1.out).trans ho2 (fun _ _ h => h)
  have HNN : Hid (∀ k, k < w.heap.size → inQ h (updN G Q.length (w1.heap.size + 1)) (Q ++ [p]).length k → inQ h G Q.length k) := by
    intro k hk hi
    have := HB1.out.size
    rcases hi with rfl | ⟨j, hj, rfl⟩
    · exact Or.inl rfl
    · unfold updN at hk ⊢
      by_cases e : j = Q.length
      · rw [if_pos e] at hk; omega
      · rw [if_neg e]
        exact Or.inr ⟨j, by simp at hj; omega, rfl⟩
  clear hq2 ho2 x0 x1 x2 HR1 HU1
  obtain ⟨⟨x0, x1, x2⟩, _⟩ := rowN3 HR2.out
  have HX : Hid (p.w < Tb.wat (Q ++ [p])) := by
    show _ < _
    have h1 := (Tb.wat_bd HF.out.2.1).1
    have h2 := HF.out.1.1
    rw [Tb.wat_app]
    simp [Tb.wat]
    omega
  have HALL : Hid (∀ q, q ∈ Q ++ [p] → Tb.Ok q) := by
    intro q hq
    rcases List.mem_append.1 hq with hq | hq
    · exact HF.out.2.1 q hq
    · simp at hq; rw [hq]; exact HOK.out
  have HPW : Hid (0 ≤ p.w) := by have := HOK.out.1.1; show 0 ≤ _; omega
  go_wp2_with fail
  refine (driveOut_any B h _ (Q ++ [p]) p.w _ HQ2.out HALL.out HPW.out HX.out (by have := HLQ.out; simp; omega)).mono ?_
  rintro e w3 ⟨⟨v, rfl, hown⟩, ⟨G', hq3, hsub⟩, ho3⟩
  have HO3 : Hid (OnlyP (inQ h G Q.length) w w3) := HO2.out.trans ho3 HNN.out
  have HQ3 : Hid (Que B h G' (Tb.psh Q p).2 w3) := hq3
  have HV : Hid (w3.ownsRow w.heap.size 38 3 v (Tb.psh Q p).1.length (pv (Tb.psh Q p).1)) := own_low hown HO2.out.size
  have HSB : Hid (∀ k, k < w.heap.size → inQ h G' (Tb.psh Q p).2.length k → inQ h G Q.length k) := fun k hk hi => HNN.out k hk (hsub k hi)
  clear hown hq3 hsub ho3 x0 x1 x2 HQ2 HR2
  obtain ⟨bg, hf, _⟩ := HQ3.out.fill
  obtain ⟨⟨f0, f1, f2⟩, _⟩ := rowN3 hf
  clear hf f0 f1
  by_cases hc : 60 < (Tb.psh Q p).2.length
  · have hcz : (60 : Int) < ((Tb.psh Q p).2.length : Int) := by omega
    go_wp2_with fail
    exact bodyPost_ret (v := .tuple #[.slice none 0 0, errV ⟨#[116, 104, 101, 32, 112, 97, 114, 99, 101, 108, 115, 32, 111, 102, 32, 97, 32, 116, 117, 98, 101]⟩ 5]) (by simp [results, Tryd.results45, go_sem]) rfl ⟨Or.inr (Or.inl ⟨HOK.out, hc, _, rfl⟩), HO3.out⟩
  · have hcz : ¬ (60 : Int) < ((Tb.psh Q p).2.length : Int) := by omega
    go_wp2_with fail
    exact bodyPost_ret (v := .tuple #[v, .nilIface]) (by simp [results, Tryd.results45, go_sem]) rfl ⟨Or.inr (Or.inr ⟨HOK.out, by omega, v, rfl, HV.out, G', HQ3.out, HSB.out⟩), HO3.out⟩
end Go.Proofs.YtjmnehlgefpheaaDoor
