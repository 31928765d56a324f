/-
  Whether a plan is right: the model's WorkRight.
-/
import Derived.Test.YtganlipebndeoaaJbWr
import Derived.Test.YtganlipebndeoaaJbS
import Derived.Test.YtganlipebndeoaaJbWc
namespace Go.Proofs.Ytganlipebndeoaa
open Go.RowKit Go.Deep

set_option maxRecDepth 100000 in
set_option maxHeartbeats 4000000 in
theorem specRight_yes (a : Option Addr) (m k : Nat) (bs : Nat → Je) (crew : Int) (c : Option Addr) (ck : Nat) (s : Nat → Int) (w : World) (h : JbsAt a m bs w) (hs : JSm m bs) (hc : IsAt c m s w) (hr : Jb.RosOk m bs m s) :
    Calls Try.prog 11 #[.slice a m k, .int .i64 crew, .slice c m ck] w fun e w' => e = .returned (.bool (dB (Jb.PlanS m bs crew s))) ∧ Below w.heap.size w w' := by
  have H := Lib.hid h
  have HS := Lib.hid hs
  have HCC := Lib.hid hc
  have HRO := Lib.hid hr
  have HN := Lib.hid (dB_tt hr.1)
  have HN2 := Lib.hid (dB_tt hr.2.2)
  have HBN := Lib.hid hr.bnd
  have HCW : Hid (∀ k, k < m → 0 ≤ (bs k).cw ∧ (bs k).cw ≤ 20) := fun k hk => by have := (hr.1.2 k hk).c; omega
  have HRA : Hid (∀ i, i < m → Pl.Rising (bs i).an (bs i).A i) := fun i hi => (hr.1.2 i hi).a
  have hm := hr.1.1
  have hz : ¬ (400 : Int) < (m : Int) := by omega
  have hzz : ((m : Int) == (m : Int)) = true := by simp
  clear h hs hc hr
  go_enter Try.func11, Try.ntmps11
  go_wp2_with fail
  refine (specJobs_any a m k bs _ H.out HS.out).mono ?_
  rintro e w1 ⟨rfl, hb⟩
  rw [HN.out]
  have HBW : Hid (Below w.heap.size w w1) := hb
  clear hb
  go_wp2_with fail
  refine (sallS_any c m ck s _ (HCC.out.below HBW.out) (by omega)).mono ?_
  rintro e w2 ⟨rfl, hb⟩
  rw [HN2.out]
  replace HBW : Hid (Below w.heap.size w w2) := HBW.out.trans (hb.mono HBW.out.size)
  clear hb
  go_wp2_with fail
  go_loopw [7, 8, 9, 10] (fun iv _ _ _ wr => ∃ (i : Nat), i ≤ m ∧ iv = .int .i64 i ∧ Hid (Below w.heap.size w wr) ∧ Hid (∀ j, j < i → Jb.rdy bs s (bs j) ≤ s j ∧ ∀ d, s j ≤ d → d < s j + (bs j).dy → Jb.ppl bs s d m ≤ crew)) (fun iv _ _ _ _ => m - (intOf iv).toNat)
  case atStart => exact ⟨0, Nat.zero_le _, rfl, HBW, fun j hj => absurd hj (Nat.not_lt_zero _)⟩
  case round =>
    obtain ⟨i, hi, rfl, hB, hP⟩ := hrel
    clear HBW
    by_cases hlt : i < m
    · have hltz : (i : Int) < (m : Int) := by omega
      obtain ⟨d, ed, u0⟩ := (HCC.out.below hB.out).at1 hlt
      subst ed
      obtain ⟨rv, hrv⟩ : ∃ rv, rv = Jb.rdy bs s (bs i) := ⟨_, rfl⟩
      have HRV := Lib.hid hrv
      have HX : Hid (∀ V, Below wr.heap.size wr V → V.cell? ⟨d, i, none⟩ = some (.int .i64 (s i))) := fun V hV => (hV.cell (World.block_lt_of_cell? _ _ u0)).trans u0
      obtain ⟨p1, p2, p3⟩ := HBN.out i hlt
      clear hrv
      by_cases c1 : s i < rv
      · have hd1 : decide (s i < rv) = true := by simpa using c1
        have HE : Hid (dB (Jb.PlanS m bs crew s) = false) := dB_ff (fun k => by have := (k.1 i hlt).1; rw [← HRV.out] at this; omega)
        go_wp2_with fail
        clear u0
        refine wp_region_held_drew (S := fun V => Below wr.heap.size wr V) (by kernel_rfl) (Below.refl _ _).drew (fun hHeld => ?_)
        refine take_do (i := 0) (v := (.slice (some ⟨d, 0, none⟩) m ck)) rfl (by kernel_rfl) (by kernel_rfl) (by kernel_rfl) (fun _ _ _ h => h) (by rfl) ?_ (by assumption) ?_
        · intro w hSw
          skip
          go_simp
        simp only [Act.put, List.setIfInBounds_toArray, List.set_cons_zero, List.set_cons_succ]
        refine take_do (i := 1) (v := (.int .i64 i)) rfl (by kernel_rfl) (by kernel_rfl) (by kernel_rfl) (fun _ _ _ h => h) (by rfl) ?_ (by assumption) ?_
        · intro w hSw
          skip
          go_simp
        simp only [Act.put, List.setIfInBounds_toArray, List.set_cons_zero, List.set_cons_succ]
        refine take_do (i := 2) (v := (.pointer (some ⟨d, i, none⟩))) rfl (by kernel_rfl) (by kernel_rfl) (by kernel_rfl) (fun _ _ _ h => h) (by rfl) ?_ (by assumption) ?_
        · intro w hSw
          skip
          go_simp
        simp only [Act.put, List.setIfInBounds_toArray, List.set_cons_zero, List.set_cons_succ]
        refine take_do (i := 3) (v := (.int .i64 (s i))) rfl (by kernel_rfl) (by kernel_rfl) (by kernel_rfl) (fun _ _ _ h => h) (by rfl) ?_ (by assumption) ?_
        · intro w hSw
          have u0 := HX.out w hSw
          go_simp
        simp only [Act.put, List.setIfInBounds_toArray, List.set_cons_zero, List.set_cons_succ]
        refine take_do (i := 4) (v := (.slice a m k)) rfl (by kernel_rfl) (by kernel_rfl) (by kernel_rfl) (fun _ _ _ h => h) (by rfl) ?_ (by assumption) ?_
        · intro w hSw
          skip
          go_simp
        simp only [Act.put, List.setIfInBounds_toArray, List.set_cons_zero, List.set_cons_succ]
        refine take_do (i := 5) (v := (.slice (some ⟨d, 0, none⟩) m ck)) rfl (by kernel_rfl) (by kernel_rfl) (by kernel_rfl) (fun _ _ _ h => h) (by rfl) ?_ (by assumption) ?_
        · intro w hSw
          skip
          go_simp
        simp only [Act.put, List.setIfInBounds_toArray, List.set_cons_zero, List.set_cons_succ]
        refine take_do (i := 6) (v := (.int .i64 i)) rfl (by kernel_rfl) (by kernel_rfl) (by kernel_rfl) (fun _ _ _ h => h) (by rfl) ?_ (by assumption) ?_
        · intro w hSw
          skip
          go_simp
        simp only [Act.put, List.setIfInBounds_toArray, List.set_cons_zero, List.set_cons_succ]
        refine take_call (i := 7) rfl (by kernel_rfl) (fun K2 hK => ?_)
        go_simp
        refine (sready_any a m k bs (some ⟨d, 0, none⟩) m ck s i _ ((H.out.below hB.out).below hHeld) ((HCC.out.below hB.out).below hHeld) hlt (by omega) (HRA.out i hlt) (by omega) (HS.out i hlt).1 (fun j hj => HBN.out j (by omega))).mono ?_
        rintro e w3 ⟨rfl, hb⟩
        rw [← HRV.out]
        go_wp2_with fail
        refine hK.out _ _ (hHeld.trans (hb.mono hHeld.size)) (fun hHeld2 => ?_)
        clear hK hHeld hb
        have hHeld := hHeld2
        clear hHeld2
        refine take_do (i := 8) (v := (.bool true)) rfl (by kernel_rfl) (by kernel_rfl) (by kernel_rfl) (fun _ _ _ h => h) (by rfl) ?_ (by assumption) ?_
        · intro w hSw
          skip
          go_simp
        simp only [Act.put, List.setIfInBounds_toArray, List.set_cons_zero, List.set_cons_succ]
        refine wpAnyH_done (by kernel_rfl) ?_ _
        have HB1 : Hid (Below w.heap.size w w3) := hB.out.trans (hHeld.mono hB.out.size)
        clear hHeld hB HX
        go_wp2_with fail
        go_ret
        exact ⟨by rw [HE.out]; rfl, HB1.out⟩
      · have hd1 : decide (s i < rv) = false := by simpa using c1
        have HLE : Hid (Jb.rdy bs s (bs i) ≤ s i) := by have := HRV.out; show _ ≤ _; omega
        go_wp2_with fail
        clear u0
        refine wp_region_held_drew (S := fun V => Below wr.heap.size wr V) (by kernel_rfl) (Below.refl _ _).drew (fun hHeld => ?_)
        refine take_do (i := 0) (v := (.slice (some ⟨d, 0, none⟩) m ck)) rfl (by kernel_rfl) (by kernel_rfl) (by kernel_rfl) (fun _ _ _ h => h) (by rfl) ?_ (by assumption) ?_
        · intro w hSw
          skip
          go_simp
        simp only [Act.put, List.setIfInBounds_toArray, List.set_cons_zero, List.set_cons_succ]
        refine take_do (i := 1) (v := (.int .i64 i)) rfl (by kernel_rfl) (by kernel_rfl) (by kernel_rfl) (fun _ _ _ h => h) (by rfl) ?_ (by assumption) ?_
        · intro w hSw
          skip
          go_simp
        simp only [Act.put, List.setIfInBounds_toArray, List.set_cons_zero, List.set_cons_succ]
        refine take_do (i := 2) (v := (.pointer (some ⟨d, i, none⟩))) rfl (by kernel_rfl) (by kernel_rfl) (by kernel_rfl) (fun _ _ _ h => h) (by rfl) ?_ (by assumption) ?_
        · intro w hSw
          skip
          go_simp
        simp only [Act.put, List.setIfInBounds_toArray, List.set_cons_zero, List.set_cons_succ]
        refine take_do (i := 3) (v := (.int .i64 (s i))) rfl (by kernel_rfl) (by kernel_rfl) (by kernel_rfl) (fun _ _ _ h => h) (by rfl) ?_ (by assumption) ?_
        · intro w hSw
          have u0 := HX.out w hSw
          go_simp
        simp only [Act.put, List.setIfInBounds_toArray, List.set_cons_zero, List.set_cons_succ]
        refine take_do (i := 4) (v := (.slice a m k)) rfl (by kernel_rfl) (by kernel_rfl) (by kernel_rfl) (fun _ _ _ h => h) (by rfl) ?_ (by assumption) ?_
        · intro w hSw
          skip
          go_simp
        simp only [Act.put, List.setIfInBounds_toArray, List.set_cons_zero, List.set_cons_succ]
        refine take_do (i := 5) (v := (.slice (some ⟨d, 0, none⟩) m ck)) rfl (by kernel_rfl) (by kernel_rfl) (by kernel_rfl) (fun _ _ _ h => h) (by rfl) ?_ (by assumption) ?_
        · intro w hSw
          skip
          go_simp
        simp only [Act.put, List.setIfInBounds_toArray, List.set_cons_zero, List.set_cons_succ]
        refine take_do (i := 6) (v := (.int .i64 i)) rfl (by kernel_rfl) (by kernel_rfl) (by kernel_rfl) (fun _ _ _ h => h) (by rfl) ?_ (by assumption) ?_
        · intro w hSw
          skip
          go_simp
        simp only [Act.put, List.setIfInBounds_toArray, List.set_cons_zero, List.set_cons_succ]
        refine take_call (i := 7) rfl (by kernel_rfl) (fun K2 hK => ?_)
        go_simp
        refine (sready_any a m k bs (some ⟨d, 0, none⟩) m ck s i _ ((H.out.below hB.out).below hHeld) ((HCC.out.below hB.out).below hHeld) hlt (by omega) (HRA.out i hlt) (by omega) (HS.out i hlt).1 (fun j hj => HBN.out j (by omega))).mono ?_
        rintro e w3 ⟨rfl, hb⟩
        rw [← HRV.out]
        go_wp2_with fail
        refine hK.out _ _ (hHeld.trans (hb.mono hHeld.size)) (fun hHeld2 => ?_)
        clear hK hHeld hb
        have hHeld := hHeld2
        clear hHeld2
        refine take_do (i := 8) (v := (.bool false)) rfl (by kernel_rfl) (by kernel_rfl) (by kernel_rfl) (fun _ _ _ h => h) (by rfl) ?_ (by assumption) ?_
        · intro w hSw
          skip
          go_simp
        simp only [Act.put, List.setIfInBounds_toArray, List.set_cons_zero, List.set_cons_succ]
        refine wpAnyH_done (by kernel_rfl) ?_ _
        have HB1 : Hid (Below w.heap.size w w3) := hB.out.trans (hHeld.mono hB.out.size)
        clear hHeld hB HX
        obtain ⟨d', ed', u0⟩ := (HCC.out.below HB1.out).at1 hlt
        have e' : d = d' := by simpa using ed'
        subst e'
        clear ed'
        go_wp2_with fail
        clear u0
        go_loopw [8, 9, 10] (fun dv _ _ wr => ∃ (t : Nat), (t : Int) ≤ (bs i).dy ∧ dv = .int .i64 (s i + t) ∧ Hid (Below w.heap.size w wr) ∧ Hid (∀ u : Nat, u < t → Jb.ppl bs s (s i + u) m ≤ crew)) (fun dv _ _ _ => (s i + (bs i).dy - intOf dv).toNat)
        case atStart => exact ⟨0, by omega, by congr 1; omega, HB1, fun u hu => absurd hu (Nat.not_lt_zero _)⟩
        case round =>
          obtain ⟨t, ht, rfl, hB, hQ⟩ := hrel
          clear HB1
          obtain ⟨dd, hdd⟩ : ∃ dd, dd = s i + (t : Int) := ⟨_, rfl⟩
          rw [← hdd]
          have HDD := Lib.hid hdd
          have hdd2 : 0 ≤ dd ∧ dd ≤ 2000000 := by omega
          clear hdd
          obtain ⟨d', ed', u0⟩ := (HCC.out.below hB.out).at1 hlt
          have e' : d = d' := by simpa using ed'
          subst e'
          obtain ⟨b, eb, ⟨x0, x1, x2, x3⟩, _⟩ := (H.out.below hB.out).at_ hlt
          subst eb
          have HX : Hid (∀ V, Below wr.heap.size wr V → V.cell? ⟨d, i, none⟩ = some (.int .i64 (s i)) ∧ V.cell? ⟨b, i * 4, none⟩ = some (.int .i64 (bs i).dy)) := fun V hV => ⟨(hV.cell (World.block_lt_of_cell? _ _ u0)).trans u0, (hV.cell (World.block_lt_of_cell? _ _ x0)).trans x0⟩
          have hwr9 : IntKind.i64.wrap (s i + (bs i).dy) = s i + (bs i).dy := jwr (by omega) (by omega)
          clear ed'
          by_cases hdt : dd < s i + (bs i).dy
          · have hd9 : decide (dd < s i + (bs i).dy) = true := by simpa using hdt
            go_wp2_with fail
            clear u0 x0 x1 x2 x3
            refine wp_region_held_drew (S := fun V => Below wr.heap.size wr V) (by kernel_rfl) (Below.refl _ _).drew (fun hHeld => ?_)
            refine take_do (i := 0) (v := (.int .i64 dd)) rfl (by kernel_rfl) (by kernel_rfl) (by kernel_rfl) (fun _ _ _ h => h) (by rfl) ?_ (by assumption) ?_
            · intro w hSw
              skip
              go_simp
            simp only [Act.put, List.setIfInBounds_toArray, List.set_cons_zero, List.set_cons_succ]
            refine take_do (i := 1) (v := (.slice (some ⟨d, 0, none⟩) m ck)) rfl (by kernel_rfl) (by kernel_rfl) (by kernel_rfl) (fun _ _ _ h => h) (by rfl) ?_ (by assumption) ?_
            · intro w hSw
              skip
              go_simp
            simp only [Act.put, List.setIfInBounds_toArray, List.set_cons_zero, List.set_cons_succ]
            refine take_do (i := 2) (v := (.int .i64 i)) rfl (by kernel_rfl) (by kernel_rfl) (by kernel_rfl) (fun _ _ _ h => h) (by rfl) ?_ (by assumption) ?_
            · intro w hSw
              skip
              go_simp
            simp only [Act.put, List.setIfInBounds_toArray, List.set_cons_zero, List.set_cons_succ]
            refine take_do (i := 3) (v := (.pointer (some ⟨d, i, none⟩))) rfl (by kernel_rfl) (by kernel_rfl) (by kernel_rfl) (fun _ _ _ h => h) (by rfl) ?_ (by assumption) ?_
            · intro w hSw
              skip
              go_simp
            simp only [Act.put, List.setIfInBounds_toArray, List.set_cons_zero, List.set_cons_succ]
            refine take_do (i := 4) (v := (.int .i64 (s i))) rfl (by kernel_rfl) (by kernel_rfl) (by kernel_rfl) (fun _ _ _ h => h) (by rfl) ?_ (by assumption) ?_
            · intro w hSw
              obtain ⟨u0, x0⟩ := HX.out w hSw
              go_simp
            simp only [Act.put, List.setIfInBounds_toArray, List.set_cons_zero, List.set_cons_succ]
            refine take_do (i := 5) (v := (.slice (some ⟨b, 0, none⟩) m k)) rfl (by kernel_rfl) (by kernel_rfl) (by kernel_rfl) (fun _ _ _ h => h) (by rfl) ?_ (by assumption) ?_
            · intro w hSw
              skip
              go_simp
            simp only [Act.put, List.setIfInBounds_toArray, List.set_cons_zero, List.set_cons_succ]
            refine take_do (i := 6) (v := (.int .i64 i)) rfl (by kernel_rfl) (by kernel_rfl) (by kernel_rfl) (fun _ _ _ h => h) (by rfl) ?_ (by assumption) ?_
            · intro w hSw
              skip
              go_simp
            simp only [Act.put, List.setIfInBounds_toArray, List.set_cons_zero, List.set_cons_succ]
            refine take_do (i := 7) (v := (.pointer (some ⟨b, i * 4, none⟩))) rfl (by kernel_rfl) (by kernel_rfl) (by kernel_rfl) (fun _ _ _ h => h) (by rfl) ?_ (by assumption) ?_
            · intro w hSw
              skip
              go_simp
            simp only [Act.put, List.setIfInBounds_toArray, List.set_cons_zero, List.set_cons_succ]
            refine take_do (i := 8) (v := (.pointer (some ⟨b, i * 4, none⟩))) rfl (by kernel_rfl) (by kernel_rfl) (by kernel_rfl) (fun _ _ _ h => h) (by rfl) ?_ (by assumption) ?_
            · intro w hSw
              skip
              go_simp
            simp only [Act.put, List.setIfInBounds_toArray, List.set_cons_zero, List.set_cons_succ]
            refine take_do (i := 9) (v := (.int .i64 (bs i).dy)) rfl (by kernel_rfl) (by kernel_rfl) (by kernel_rfl) (fun _ _ _ h => h) (by rfl) ?_ (by assumption) ?_
            · intro w hSw
              obtain ⟨u0, x0⟩ := HX.out w hSw
              go_simp
            simp only [Act.put, List.setIfInBounds_toArray, List.set_cons_zero, List.set_cons_succ]
            refine take_do (i := 10) (v := (.int .i64 (s i + (bs i).dy))) rfl (by kernel_rfl) (by kernel_rfl) (by kernel_rfl) (fun _ _ _ h => h) (by rfl) ?_ (by assumption) ?_
            · intro w hSw
              skip
              go_simp
            simp only [Act.put, List.setIfInBounds_toArray, List.set_cons_zero, List.set_cons_succ]
            refine take_do (i := 11) (v := (.bool true)) rfl (by kernel_rfl) (by kernel_rfl) (by kernel_rfl) (fun _ _ _ h => h) (by rfl) ?_ (by assumption) ?_
            · intro w hSw
              skip
              go_simp
            simp only [Act.put, List.setIfInBounds_toArray, List.set_cons_zero, List.set_cons_succ]
            refine wpAnyH_done (by kernel_rfl) ?_ _
            have HB9 : Hid (Below w.heap.size w wr.drew) := hB.out.drew
            obtain ⟨Z9, hZ9⟩ : ∃ Z9, Z9 = wr.drew := ⟨_, rfl⟩
            rw [← hZ9] at HB9 ⊢
            clear hHeld hZ9 hB HX hwr9
            obtain ⟨RT, hRT⟩ : ∃ RT, RT = Jb.ppl bs s dd := ⟨_, rfl⟩
            have R0 : Hid (RT 0 = 0) := by show _ = _; rw [hRT]; rfl
            have RS : Hid (∀ q, RT (q + 1) = RT q + if Jb.atW (bs q) (s q) dd then (bs q).cw else 0) := fun q => by rw [hRT]; rfl
            have RB : Hid (∀ q, q ≤ m → 0 ≤ RT q ∧ RT q ≤ ((20 * q : Nat) : Int)) := fun q hq => by rw [hRT]; exact Jb.ppl_bd (fun k hk => HCW.out k (by omega))
            have HRT := Lib.hid hRT
            clear hRT
            go_wp2_with fail
            go_loopw [9, 10] (fun pv qv wr => ∃ (q : Nat), q ≤ m ∧ qv = .int .i64 q ∧ pv = .int .i64 (RT q) ∧ Hid (Below w.heap.size w wr)) (fun _ qv _ => m - (intOf qv).toNat)
            case atStart => exact ⟨0, Nat.zero_le _, rfl, by rw [R0.out], HB9⟩
            case round =>
              obtain ⟨q, hq, rfl, rfl, hB⟩ := hrel
              clear HB9
              obtain ⟨rb1, rb2⟩ := RB.out q hq
              obtain ⟨rq, hrq⟩ : ∃ rq, rq = RT q := ⟨_, rfl⟩
              rw [← hrq] at rb1 rb2 ⊢
              have HRQ := Lib.hid hrq
              clear hrq
              by_cases hqt : q < m
              · have hqtz : (q : Int) < (m : Int) := by omega
                obtain ⟨d', ed', u0⟩ := (HCC.out.below hB.out).at1 hqt
                have e' : d = d' := by simpa using ed'
                subst e'
                obtain ⟨b', eb', ⟨x0, x1, x2, x3⟩, _⟩ := (H.out.below hB.out).at_ hqt
                have e' : b = b' := by simpa using eb'
                subst e'
                obtain ⟨o1, o2, o3⟩ := HBN.out q hqt
                have hcw := HCW.out q hqt
                have HX : Hid (∀ V, Below wr.heap.size wr V → V.cell? ⟨d, q, none⟩ = some (.int .i64 (s q)) ∧ V.cell? ⟨b, q * 4, none⟩ = some (.int .i64 (bs q).dy) ∧ V.cell? ⟨b, q * 4 + 1, none⟩ = some (.int .i64 (bs q).cw)) := fun V hV => ⟨(hV.cell (World.block_lt_of_cell? _ _ u0)).trans u0, (hV.cell (World.block_lt_of_cell? _ _ x0)).trans x0, (hV.cell (World.block_lt_of_cell? _ _ x1)).trans x1⟩
                have hwr5 : IntKind.i64.wrap (s q + (bs q).dy) = s q + (bs q).dy := jwr (by omega) (by omega)
                clear ed' eb'
                by_cases k1 : s q ≤ dd
                · have hk1 : decide (s q ≤ dd) = true := by simpa using k1
                  by_cases k2 : dd < s q + (bs q).dy
                  · have hk2 : decide (dd < s q + (bs q).dy) = true := by simpa using k2
                    have HE : Hid (RT (q + 1) = rq + (bs q).cw) := by show _ = _; rw [RS.out q, if_pos ⟨k1, k2⟩, HRQ.out]
                    go_wp2_with fail
                    clear u0 x0 x1 x2 x3
                    refine wp_region_held_drew (S := fun V => Below wr.heap.size wr V) (by kernel_rfl) (Below.refl _ _).drew (fun hHeld => ?_)
                    refine take_do (i := 0) (v := (.int .i64 dd)) rfl (by kernel_rfl) (by kernel_rfl) (by kernel_rfl) (fun _ _ _ h => h) (by rfl) ?_ (by assumption) ?_
                    · intro w hSw
                      skip
                      go_simp
                    simp only [Act.put, List.setIfInBounds_toArray, List.set_cons_zero, List.set_cons_succ]
                    refine take_do (i := 1) (v := (.slice (some ⟨d, 0, none⟩) m ck)) rfl (by kernel_rfl) (by kernel_rfl) (by kernel_rfl) (fun _ _ _ h => h) (by rfl) ?_ (by assumption) ?_
                    · intro w hSw
                      skip
                      go_simp
                    simp only [Act.put, List.setIfInBounds_toArray, List.set_cons_zero, List.set_cons_succ]
                    refine take_do (i := 2) (v := (.int .i64 q)) rfl (by kernel_rfl) (by kernel_rfl) (by kernel_rfl) (fun _ _ _ h => h) (by rfl) ?_ (by assumption) ?_
                    · intro w hSw
                      skip
                      go_simp
                    simp only [Act.put, List.setIfInBounds_toArray, List.set_cons_zero, List.set_cons_succ]
                    refine take_do (i := 3) (v := (.pointer (some ⟨d, q, none⟩))) rfl (by kernel_rfl) (by kernel_rfl) (by kernel_rfl) (fun _ _ _ h => h) (by rfl) ?_ (by assumption) ?_
                    · intro w hSw
                      skip
                      go_simp
                    simp only [Act.put, List.setIfInBounds_toArray, List.set_cons_zero, List.set_cons_succ]
                    refine take_do (i := 4) (v := (.int .i64 (s q))) rfl (by kernel_rfl) (by kernel_rfl) (by kernel_rfl) (fun _ _ _ h => h) (by rfl) ?_ (by assumption) ?_
                    · intro w hSw
                      obtain ⟨u0, x0, x1⟩ := HX.out w hSw
                      go_simp
                    simp only [Act.put, List.setIfInBounds_toArray, List.set_cons_zero, List.set_cons_succ]
                    refine take_do (i := 5) (v := (.bool true)) rfl (by kernel_rfl) (by kernel_rfl) (by kernel_rfl) (fun _ _ _ h => h) (by rfl) ?_ (by assumption) ?_
                    · intro w hSw
                      skip
                      go_simp
                    simp only [Act.put, List.setIfInBounds_toArray, List.set_cons_zero, List.set_cons_succ]
                    refine take_do (i := 6) (v := (.bool true)) rfl (by kernel_rfl) (by kernel_rfl) (by kernel_rfl) (fun _ _ _ h => h) (by rfl) ?_ (by assumption) ?_
                    · intro w hSw
                      skip
                      go_simp
                    simp only [Act.put, List.setIfInBounds_toArray, List.set_cons_zero, List.set_cons_succ]
                    refine take_do (i := 7) (v := (.int .i64 dd)) rfl (by kernel_rfl) (by kernel_rfl) (by kernel_rfl) (fun _ _ _ h => h) (by rfl) ?_ (by assumption) ?_
                    · intro w hSw
                      skip
                      go_simp
                    simp only [Act.put, List.setIfInBounds_toArray, List.set_cons_zero, List.set_cons_succ]
                    refine take_do (i := 8) (v := (.slice (some ⟨d, 0, none⟩) m ck)) rfl (by kernel_rfl) (by kernel_rfl) (by kernel_rfl) (fun _ _ _ h => h) (by rfl) ?_ (by assumption) ?_
                    · intro w hSw
                      skip
                      go_simp
                    simp only [Act.put, List.setIfInBounds_toArray, List.set_cons_zero, List.set_cons_succ]
                    refine take_do (i := 9) (v := (.int .i64 q)) rfl (by kernel_rfl) (by kernel_rfl) (by kernel_rfl) (fun _ _ _ h => h) (by rfl) ?_ (by assumption) ?_
                    · intro w hSw
                      skip
                      go_simp
                    simp only [Act.put, List.setIfInBounds_toArray, List.set_cons_zero, List.set_cons_succ]
                    refine take_do (i := 10) (v := (.pointer (some ⟨d, q, none⟩))) rfl (by kernel_rfl) (by kernel_rfl) (by kernel_rfl) (fun _ _ _ h => h) (by rfl) ?_ (by assumption) ?_
                    · intro w hSw
                      skip
                      go_simp
                    simp only [Act.put, List.setIfInBounds_toArray, List.set_cons_zero, List.set_cons_succ]
                    refine take_do (i := 11) (v := (.int .i64 (s q))) rfl (by kernel_rfl) (by kernel_rfl) (by kernel_rfl) (fun _ _ _ h => h) (by rfl) ?_ (by assumption) ?_
                    · intro w hSw
                      obtain ⟨u0, x0, x1⟩ := HX.out w hSw
                      go_simp
                    simp only [Act.put, List.setIfInBounds_toArray, List.set_cons_zero, List.set_cons_succ]
                    refine take_do (i := 12) (v := (.slice (some ⟨b, 0, none⟩) m k)) rfl (by kernel_rfl) (by kernel_rfl) (by kernel_rfl) (fun _ _ _ h => h) (by rfl) ?_ (by assumption) ?_
                    · intro w hSw
                      skip
                      go_simp
                    simp only [Act.put, List.setIfInBounds_toArray, List.set_cons_zero, List.set_cons_succ]
                    refine take_do (i := 13) (v := (.int .i64 q)) rfl (by kernel_rfl) (by kernel_rfl) (by kernel_rfl) (fun _ _ _ h => h) (by rfl) ?_ (by assumption) ?_
                    · intro w hSw
                      skip
                      go_simp
                    simp only [Act.put, List.setIfInBounds_toArray, List.set_cons_zero, List.set_cons_succ]
                    refine take_do (i := 14) (v := (.pointer (some ⟨b, q * 4, none⟩))) rfl (by kernel_rfl) (by kernel_rfl) (by kernel_rfl) (fun _ _ _ h => h) (by rfl) ?_ (by assumption) ?_
                    · intro w hSw
                      skip
                      go_simp
                    simp only [Act.put, List.setIfInBounds_toArray, List.set_cons_zero, List.set_cons_succ]
                    refine take_do (i := 15) (v := (.pointer (some ⟨b, q * 4, none⟩))) rfl (by kernel_rfl) (by kernel_rfl) (by kernel_rfl) (fun _ _ _ h => h) (by rfl) ?_ (by assumption) ?_
                    · intro w hSw
                      skip
                      go_simp
                    simp only [Act.put, List.setIfInBounds_toArray, List.set_cons_zero, List.set_cons_succ]
                    refine take_do (i := 16) (v := (.int .i64 (bs q).dy)) rfl (by kernel_rfl) (by kernel_rfl) (by kernel_rfl) (fun _ _ _ h => h) (by rfl) ?_ (by assumption) ?_
                    · intro w hSw
                      obtain ⟨u0, x0, x1⟩ := HX.out w hSw
                      go_simp
                    simp only [Act.put, List.setIfInBounds_toArray, List.set_cons_zero, List.set_cons_succ]
                    refine take_do (i := 17) (v := (.int .i64 (s q + (bs q).dy))) rfl (by kernel_rfl) (by kernel_rfl) (by kernel_rfl) (fun _ _ _ h => h) (by rfl) ?_ (by assumption) ?_
                    · intro w hSw
                      skip
                      go_simp
                    simp only [Act.put, List.setIfInBounds_toArray, List.set_cons_zero, List.set_cons_succ]
                    refine take_do (i := 18) (v := (.bool true)) rfl (by kernel_rfl) (by kernel_rfl) (by kernel_rfl) (fun _ _ _ h => h) (by rfl) ?_ (by assumption) ?_
                    · intro w hSw
                      skip
                      go_simp
                    simp only [Act.put, List.setIfInBounds_toArray, List.set_cons_zero, List.set_cons_succ]
                    refine take_do (i := 19) (v := (.bool true)) rfl (by kernel_rfl) (by kernel_rfl) (by kernel_rfl) (fun _ _ _ h => h) (by rfl) ?_ (by assumption) ?_
                    · intro w hSw
                      skip
                      go_simp
                    simp only [Act.put, List.setIfInBounds_toArray, List.set_cons_zero, List.set_cons_succ]
                    refine wpAnyH_done (by kernel_rfl) ?_ _
                    have HB5 : Hid (Below w.heap.size w wr.drew) := hB.out.drew
                    have HZ5 : Hid (Below wr.heap.size wr wr.drew) := hHeld
                    obtain ⟨Z5, hZ5⟩ : ∃ Z5, Z5 = wr.drew := ⟨_, rfl⟩
                    rw [← hZ5] at HB5 HZ5 ⊢
                    clear hHeld hZ5 hB hwr5
                    obtain ⟨_, _, x1⟩ := HX.out Z5 HZ5.out
                    clear HX
                    go_wp2_with fail
                    go_roundw
                    case rel => exact ⟨q + 1, by omega, by go_num, by rw [HE.out], HB5⟩
                    case measure => simp [intOf]; omega
                  · have hk2 : decide (dd < s q + (bs q).dy) = false := by simpa using k2
                    have HE : Hid (RT (q + 1) = rq) := by show _ = _; rw [RS.out q, if_neg (fun x => k2 x.2), HRQ.out]; omega
                    go_wp2_with fail
                    clear u0 x0 x1 x2 x3
                    refine wp_region_held_drew (S := fun V => Below wr.heap.size wr V) (by kernel_rfl) (Below.refl _ _).drew (fun hHeld => ?_)
                    refine take_do (i := 0) (v := (.int .i64 dd)) rfl (by kernel_rfl) (by kernel_rfl) (by kernel_rfl) (fun _ _ _ h => h) (by rfl) ?_ (by assumption) ?_
                    · intro w hSw
                      skip
                      go_simp
                    simp only [Act.put, List.setIfInBounds_toArray, List.set_cons_zero, List.set_cons_succ]
                    refine take_do (i := 1) (v := (.slice (some ⟨d, 0, none⟩) m ck)) rfl (by kernel_rfl) (by kernel_rfl) (by kernel_rfl) (fun _ _ _ h => h) (by rfl) ?_ (by assumption) ?_
                    · intro w hSw
                      skip
                      go_simp
                    simp only [Act.put, List.setIfInBounds_toArray, List.set_cons_zero, List.set_cons_succ]
                    refine take_do (i := 2) (v := (.int .i64 q)) rfl (by kernel_rfl) (by kernel_rfl) (by kernel_rfl) (fun _ _ _ h => h) (by rfl) ?_ (by assumption) ?_
                    · intro w hSw
                      skip
                      go_simp
                    simp only [Act.put, List.setIfInBounds_toArray, List.set_cons_zero, List.set_cons_succ]
                    refine take_do (i := 3) (v := (.pointer (some ⟨d, q, none⟩))) rfl (by kernel_rfl) (by kernel_rfl) (by kernel_rfl) (fun _ _ _ h => h) (by rfl) ?_ (by assumption) ?_
                    · intro w hSw
                      skip
                      go_simp
                    simp only [Act.put, List.setIfInBounds_toArray, List.set_cons_zero, List.set_cons_succ]
                    refine take_do (i := 4) (v := (.int .i64 (s q))) rfl (by kernel_rfl) (by kernel_rfl) (by kernel_rfl) (fun _ _ _ h => h) (by rfl) ?_ (by assumption) ?_
                    · intro w hSw
                      obtain ⟨u0, x0, x1⟩ := HX.out w hSw
                      go_simp
                    simp only [Act.put, List.setIfInBounds_toArray, List.set_cons_zero, List.set_cons_succ]
                    refine take_do (i := 5) (v := (.bool true)) rfl (by kernel_rfl) (by kernel_rfl) (by kernel_rfl) (fun _ _ _ h => h) (by rfl) ?_ (by assumption) ?_
                    · intro w hSw
                      skip
                      go_simp
                    simp only [Act.put, List.setIfInBounds_toArray, List.set_cons_zero, List.set_cons_succ]
                    refine take_do (i := 6) (v := (.bool true)) rfl (by kernel_rfl) (by kernel_rfl) (by kernel_rfl) (fun _ _ _ h => h) (by rfl) ?_ (by assumption) ?_
                    · intro w hSw
                      skip
                      go_simp
                    simp only [Act.put, List.setIfInBounds_toArray, List.set_cons_zero, List.set_cons_succ]
                    refine take_do (i := 7) (v := (.int .i64 dd)) rfl (by kernel_rfl) (by kernel_rfl) (by kernel_rfl) (fun _ _ _ h => h) (by rfl) ?_ (by assumption) ?_
                    · intro w hSw
                      skip
                      go_simp
                    simp only [Act.put, List.setIfInBounds_toArray, List.set_cons_zero, List.set_cons_succ]
                    refine take_do (i := 8) (v := (.slice (some ⟨d, 0, none⟩) m ck)) rfl (by kernel_rfl) (by kernel_rfl) (by kernel_rfl) (fun _ _ _ h => h) (by rfl) ?_ (by assumption) ?_
                    · intro w hSw
                      skip
                      go_simp
                    simp only [Act.put, List.setIfInBounds_toArray, List.set_cons_zero, List.set_cons_succ]
                    refine take_do (i := 9) (v := (.int .i64 q)) rfl (by kernel_rfl) (by kernel_rfl) (by kernel_rfl) (fun _ _ _ h => h) (by rfl) ?_ (by assumption) ?_
                    · intro w hSw
                      skip
                      go_simp
                    simp only [Act.put, List.setIfInBounds_toArray, List.set_cons_zero, List.set_cons_succ]
                    refine take_do (i := 10) (v := (.pointer (some ⟨d, q, none⟩))) rfl (by kernel_rfl) (by kernel_rfl) (by kernel_rfl) (fun _ _ _ h => h) (by rfl) ?_ (by assumption) ?_
                    · intro w hSw
                      skip
                      go_simp
                    simp only [Act.put, List.setIfInBounds_toArray, List.set_cons_zero, List.set_cons_succ]
                    refine take_do (i := 11) (v := (.int .i64 (s q))) rfl (by kernel_rfl) (by kernel_rfl) (by kernel_rfl) (fun _ _ _ h => h) (by rfl) ?_ (by assumption) ?_
                    · intro w hSw
                      obtain ⟨u0, x0, x1⟩ := HX.out w hSw
                      go_simp
                    simp only [Act.put, List.setIfInBounds_toArray, List.set_cons_zero, List.set_cons_succ]
                    refine take_do (i := 12) (v := (.slice (some ⟨b, 0, none⟩) m k)) rfl (by kernel_rfl) (by kernel_rfl) (by kernel_rfl) (fun _ _ _ h => h) (by rfl) ?_ (by assumption) ?_
                    · intro w hSw
                      skip
                      go_simp
                    simp only [Act.put, List.setIfInBounds_toArray, List.set_cons_zero, List.set_cons_succ]
                    refine take_do (i := 13) (v := (.int .i64 q)) rfl (by kernel_rfl) (by kernel_rfl) (by kernel_rfl) (fun _ _ _ h => h) (by rfl) ?_ (by assumption) ?_
                    · intro w hSw
                      skip
                      go_simp
                    simp only [Act.put, List.setIfInBounds_toArray, List.set_cons_zero, List.set_cons_succ]
                    refine take_do (i := 14) (v := (.pointer (some ⟨b, q * 4, none⟩))) rfl (by kernel_rfl) (by kernel_rfl) (by kernel_rfl) (fun _ _ _ h => h) (by rfl) ?_ (by assumption) ?_
                    · intro w hSw
                      skip
                      go_simp
                    simp only [Act.put, List.setIfInBounds_toArray, List.set_cons_zero, List.set_cons_succ]
                    refine take_do (i := 15) (v := (.pointer (some ⟨b, q * 4, none⟩))) rfl (by kernel_rfl) (by kernel_rfl) (by kernel_rfl) (fun _ _ _ h => h) (by rfl) ?_ (by assumption) ?_
                    · intro w hSw
                      skip
                      go_simp
                    simp only [Act.put, List.setIfInBounds_toArray, List.set_cons_zero, List.set_cons_succ]
                    refine take_do (i := 16) (v := (.int .i64 (bs q).dy)) rfl (by kernel_rfl) (by kernel_rfl) (by kernel_rfl) (fun _ _ _ h => h) (by rfl) ?_ (by assumption) ?_
                    · intro w hSw
                      obtain ⟨u0, x0, x1⟩ := HX.out w hSw
                      go_simp
                    simp only [Act.put, List.setIfInBounds_toArray, List.set_cons_zero, List.set_cons_succ]
                    refine take_do (i := 17) (v := (.int .i64 (s q + (bs q).dy))) rfl (by kernel_rfl) (by kernel_rfl) (by kernel_rfl) (fun _ _ _ h => h) (by rfl) ?_ (by assumption) ?_
                    · intro w hSw
                      skip
                      go_simp
                    simp only [Act.put, List.setIfInBounds_toArray, List.set_cons_zero, List.set_cons_succ]
                    refine take_do (i := 18) (v := (.bool false)) rfl (by kernel_rfl) (by kernel_rfl) (by kernel_rfl) (fun _ _ _ h => h) (by rfl) ?_ (by assumption) ?_
                    · intro w hSw
                      skip
                      go_simp
                    simp only [Act.put, List.setIfInBounds_toArray, List.set_cons_zero, List.set_cons_succ]
                    refine take_do (i := 19) (v := (.bool false)) rfl (by kernel_rfl) (by kernel_rfl) (by kernel_rfl) (fun _ _ _ h => h) (by rfl) ?_ (by assumption) ?_
                    · intro w hSw
                      skip
                      go_simp
                    simp only [Act.put, List.setIfInBounds_toArray, List.set_cons_zero, List.set_cons_succ]
                    refine wpAnyH_done (by kernel_rfl) ?_ _
                    have HB5 : Hid (Below w.heap.size w wr.drew) := hB.out.drew
                    have HZ5 : Hid (Below wr.heap.size wr wr.drew) := hHeld
                    obtain ⟨Z5, hZ5⟩ : ∃ Z5, Z5 = wr.drew := ⟨_, rfl⟩
                    rw [← hZ5] at HB5 HZ5 ⊢
                    clear hHeld hZ5 hB hwr5
                    clear HX HZ5
                    go_wp2_with fail
                    go_roundw
                    case rel => exact ⟨q + 1, by omega, by go_num, by rw [HE.out], HB5⟩
                    case measure => simp [intOf]; omega
                · have hk1 : decide (s q ≤ dd) = false := by simpa using k1
                  have HE : Hid (RT (q + 1) = rq) := by show _ = _; rw [RS.out q, if_neg (fun x => k1 x.1), HRQ.out]; omega
                  go_wp2_with fail
                  clear u0 x0 x1 x2 x3
                  refine wp_region_held_drew (S := fun V => Below wr.heap.size wr V) (by kernel_rfl) (Below.refl _ _).drew (fun hHeld => ?_)
                  refine take_do (i := 0) (v := (.int .i64 dd)) rfl (by kernel_rfl) (by kernel_rfl) (by kernel_rfl) (fun _ _ _ h => h) (by rfl) ?_ (by assumption) ?_
                  · intro w hSw
                    skip
                    go_simp
                  simp only [Act.put, List.setIfInBounds_toArray, List.set_cons_zero, List.set_cons_succ]
                  refine take_do (i := 1) (v := (.slice (some ⟨d, 0, none⟩) m ck)) rfl (by kernel_rfl) (by kernel_rfl) (by kernel_rfl) (fun _ _ _ h => h) (by rfl) ?_ (by assumption) ?_
                  · intro w hSw
                    skip
                    go_simp
                  simp only [Act.put, List.setIfInBounds_toArray, List.set_cons_zero, List.set_cons_succ]
                  refine take_do (i := 2) (v := (.int .i64 q)) rfl (by kernel_rfl) (by kernel_rfl) (by kernel_rfl) (fun _ _ _ h => h) (by rfl) ?_ (by assumption) ?_
                  · intro w hSw
                    skip
                    go_simp
                  simp only [Act.put, List.setIfInBounds_toArray, List.set_cons_zero, List.set_cons_succ]
                  refine take_do (i := 3) (v := (.pointer (some ⟨d, q, none⟩))) rfl (by kernel_rfl) (by kernel_rfl) (by kernel_rfl) (fun _ _ _ h => h) (by rfl) ?_ (by assumption) ?_
                  · intro w hSw
                    skip
                    go_simp
                  simp only [Act.put, List.setIfInBounds_toArray, List.set_cons_zero, List.set_cons_succ]
                  refine take_do (i := 4) (v := (.int .i64 (s q))) rfl (by kernel_rfl) (by kernel_rfl) (by kernel_rfl) (fun _ _ _ h => h) (by rfl) ?_ (by assumption) ?_
                  · intro w hSw
                    obtain ⟨u0, x0, x1⟩ := HX.out w hSw
                    go_simp
                  simp only [Act.put, List.setIfInBounds_toArray, List.set_cons_zero, List.set_cons_succ]
                  refine take_do (i := 5) (v := (.bool false)) rfl (by kernel_rfl) (by kernel_rfl) (by kernel_rfl) (fun _ _ _ h => h) (by rfl) ?_ (by assumption) ?_
                  · intro w hSw
                    skip
                    go_simp
                  simp only [Act.put, List.setIfInBounds_toArray, List.set_cons_zero, List.set_cons_succ]
                  refine take_do (i := 6) (v := (.bool false)) rfl (by kernel_rfl) (by kernel_rfl) (by kernel_rfl) (fun _ _ _ h => h) (by rfl) ?_ (by assumption) ?_
                  · intro w hSw
                    skip
                    go_simp
                  simp only [Act.put, List.setIfInBounds_toArray, List.set_cons_zero, List.set_cons_succ]
                  refine take_skip (i := 7) rfl (by kernel_rfl) (by kernel_rfl) (by kernel_rfl) (fun _ _ _ h => h) (by rfl) (by assumption) ?_
                  simp only [Act.put, List.setIfInBounds_toArray, List.set_cons_zero, List.set_cons_succ]
                  refine take_skip (i := 8) rfl (by kernel_rfl) (by kernel_rfl) (by kernel_rfl) (fun _ _ _ h => h) (by rfl) (by assumption) ?_
                  simp only [Act.put, List.setIfInBounds_toArray, List.set_cons_zero, List.set_cons_succ]
                  refine take_skip (i := 9) rfl (by kernel_rfl) (by kernel_rfl) (by kernel_rfl) (fun _ _ _ h => h) (by rfl) (by assumption) ?_
                  simp only [Act.put, List.setIfInBounds_toArray, List.set_cons_zero, List.set_cons_succ]
                  refine take_skip (i := 10) rfl (by kernel_rfl) (by kernel_rfl) (by kernel_rfl) (fun _ _ _ h => h) (by rfl) (by assumption) ?_
                  simp only [Act.put, List.setIfInBounds_toArray, List.set_cons_zero, List.set_cons_succ]
                  refine take_skip (i := 11) rfl (by kernel_rfl) (by kernel_rfl) (by kernel_rfl) (fun _ _ _ h => h) (by rfl) (by assumption) ?_
                  simp only [Act.put, List.setIfInBounds_toArray, List.set_cons_zero, List.set_cons_succ]
                  refine take_skip (i := 12) rfl (by kernel_rfl) (by kernel_rfl) (by kernel_rfl) (fun _ _ _ h => h) (by rfl) (by assumption) ?_
                  simp only [Act.put, List.setIfInBounds_toArray, List.set_cons_zero, List.set_cons_succ]
                  refine take_skip (i := 13) rfl (by kernel_rfl) (by kernel_rfl) (by kernel_rfl) (fun _ _ _ h => h) (by rfl) (by assumption) ?_
                  simp only [Act.put, List.setIfInBounds_toArray, List.set_cons_zero, List.set_cons_succ]
                  refine take_skip (i := 14) rfl (by kernel_rfl) (by kernel_rfl) (by kernel_rfl) (fun _ _ _ h => h) (by rfl) (by assumption) ?_
                  simp only [Act.put, List.setIfInBounds_toArray, List.set_cons_zero, List.set_cons_succ]
                  refine take_skip (i := 15) rfl (by kernel_rfl) (by kernel_rfl) (by kernel_rfl) (fun _ _ _ h => h) (by rfl) (by assumption) ?_
                  simp only [Act.put, List.setIfInBounds_toArray, List.set_cons_zero, List.set_cons_succ]
                  refine take_skip (i := 16) rfl (by kernel_rfl) (by kernel_rfl) (by kernel_rfl) (fun _ _ _ h => h) (by rfl) (by assumption) ?_
                  simp only [Act.put, List.setIfInBounds_toArray, List.set_cons_zero, List.set_cons_succ]
                  refine take_skip (i := 17) rfl (by kernel_rfl) (by kernel_rfl) (by kernel_rfl) (fun _ _ _ h => h) (by rfl) (by assumption) ?_
                  simp only [Act.put, List.setIfInBounds_toArray, List.set_cons_zero, List.set_cons_succ]
                  refine take_skip (i := 18) rfl (by kernel_rfl) (by kernel_rfl) (by kernel_rfl) (fun _ _ _ h => h) (by rfl) (by assumption) ?_
                  simp only [Act.put, List.setIfInBounds_toArray, List.set_cons_zero, List.set_cons_succ]
                  refine take_do (i := 19) (v := (.bool false)) rfl (by kernel_rfl) (by kernel_rfl) (by kernel_rfl) (fun _ _ _ h => h) (by rfl) ?_ (by assumption) ?_
                  · intro w hSw
                    skip
                    go_simp
                  simp only [Act.put, List.setIfInBounds_toArray, List.set_cons_zero, List.set_cons_succ]
                  refine wpAnyH_done (by kernel_rfl) ?_ _
                  have HB5 : Hid (Below w.heap.size w wr.drew) := hB.out.drew
                  have HZ5 : Hid (Below wr.heap.size wr wr.drew) := hHeld
                  obtain ⟨Z5, hZ5⟩ : ∃ Z5, Z5 = wr.drew := ⟨_, rfl⟩
                  rw [← hZ5] at HB5 HZ5 ⊢
                  clear hHeld hZ5 hB hwr5
                  clear HX HZ5
                  go_wp2_with fail
                  go_roundw
                  case rel => exact ⟨q + 1, by omega, by go_num, by rw [HE.out], HB5⟩
                  case measure => simp [intOf]; omega
              · obtain rfl : q = m := by omega
                by_cases cq : crew < rq
                · have HE : Hid (dB (Jb.PlanS q bs crew s) = false) := dB_ff (fun k => by
                    have := (k.1 i hlt).2 dd (by have := HDD.out; omega) hdt
                    rw [← HRT.out, ← HRQ.out] at this; omega)
                  go_wp2_with fail
                  go_ret
                  exact ⟨by rw [HE.out]; rfl, hB.out⟩
                · have HL : Hid (Jb.ppl bs s dd q ≤ crew) := by show _ ≤ _; rw [← HRT.out, ← HRQ.out]; omega
                  go_wp2_with fail
                  go_roundw
                  case rel => exact ⟨t + 1, by have := HDD.out; omega, by have := HDD.out; go_num, hB, fun u hu => by
                    by_cases e : u = t
                    · subst e; rw [← HDD.out]; exact HL.out
                    · exact hQ.out u (by omega)⟩
                  case measure => simp [intOf]; omega
          · have hd9 : decide (dd < s i + (bs i).dy) = false := by simpa using hdt
            have HDE : Hid (∀ d, s i ≤ d → d < s i + (bs i).dy → Jb.ppl bs s d m ≤ crew) := fun d h1 h2 => by
              have := HDD.out
              have q := hQ.out (d - s i).toNat (by omega)
              have e : s i + ((d - s i).toNat : Int) = d := by omega
              rw [e] at q
              exact q
            go_wp2_with fail
            clear u0 x0 x1 x2 x3
            refine wp_region_held_drew (S := fun V => Below wr.heap.size wr V) (by kernel_rfl) (Below.refl _ _).drew (fun hHeld => ?_)
            refine take_do (i := 0) (v := (.int .i64 dd)) rfl (by kernel_rfl) (by kernel_rfl) (by kernel_rfl) (fun _ _ _ h => h) (by rfl) ?_ (by assumption) ?_
            · intro w hSw
              skip
              go_simp
            simp only [Act.put, List.setIfInBounds_toArray, List.set_cons_zero, List.set_cons_succ]
            refine take_do (i := 1) (v := (.slice (some ⟨d, 0, none⟩) m ck)) rfl (by kernel_rfl) (by kernel_rfl) (by kernel_rfl) (fun _ _ _ h => h) (by rfl) ?_ (by assumption) ?_
            · intro w hSw
              skip
              go_simp
            simp only [Act.put, List.setIfInBounds_toArray, List.set_cons_zero, List.set_cons_succ]
            refine take_do (i := 2) (v := (.int .i64 i)) rfl (by kernel_rfl) (by kernel_rfl) (by kernel_rfl) (fun _ _ _ h => h) (by rfl) ?_ (by assumption) ?_
            · intro w hSw
              skip
              go_simp
            simp only [Act.put, List.setIfInBounds_toArray, List.set_cons_zero, List.set_cons_succ]
            refine take_do (i := 3) (v := (.pointer (some ⟨d, i, none⟩))) rfl (by kernel_rfl) (by kernel_rfl) (by kernel_rfl) (fun _ _ _ h => h) (by rfl) ?_ (by assumption) ?_
            · intro w hSw
              skip
              go_simp
            simp only [Act.put, List.setIfInBounds_toArray, List.set_cons_zero, List.set_cons_succ]
            refine take_do (i := 4) (v := (.int .i64 (s i))) rfl (by kernel_rfl) (by kernel_rfl) (by kernel_rfl) (fun _ _ _ h => h) (by rfl) ?_ (by assumption) ?_
            · intro w hSw
              obtain ⟨u0, x0⟩ := HX.out w hSw
              go_simp
            simp only [Act.put, List.setIfInBounds_toArray, List.set_cons_zero, List.set_cons_succ]
            refine take_do (i := 5) (v := (.slice (some ⟨b, 0, none⟩) m k)) rfl (by kernel_rfl) (by kernel_rfl) (by kernel_rfl) (fun _ _ _ h => h) (by rfl) ?_ (by assumption) ?_
            · intro w hSw
              skip
              go_simp
            simp only [Act.put, List.setIfInBounds_toArray, List.set_cons_zero, List.set_cons_succ]
            refine take_do (i := 6) (v := (.int .i64 i)) rfl (by kernel_rfl) (by kernel_rfl) (by kernel_rfl) (fun _ _ _ h => h) (by rfl) ?_ (by assumption) ?_
            · intro w hSw
              skip
              go_simp
            simp only [Act.put, List.setIfInBounds_toArray, List.set_cons_zero, List.set_cons_succ]
            refine take_do (i := 7) (v := (.pointer (some ⟨b, i * 4, none⟩))) rfl (by kernel_rfl) (by kernel_rfl) (by kernel_rfl) (fun _ _ _ h => h) (by rfl) ?_ (by assumption) ?_
            · intro w hSw
              skip
              go_simp
            simp only [Act.put, List.setIfInBounds_toArray, List.set_cons_zero, List.set_cons_succ]
            refine take_do (i := 8) (v := (.pointer (some ⟨b, i * 4, none⟩))) rfl (by kernel_rfl) (by kernel_rfl) (by kernel_rfl) (fun _ _ _ h => h) (by rfl) ?_ (by assumption) ?_
            · intro w hSw
              skip
              go_simp
            simp only [Act.put, List.setIfInBounds_toArray, List.set_cons_zero, List.set_cons_succ]
            refine take_do (i := 9) (v := (.int .i64 (bs i).dy)) rfl (by kernel_rfl) (by kernel_rfl) (by kernel_rfl) (fun _ _ _ h => h) (by rfl) ?_ (by assumption) ?_
            · intro w hSw
              obtain ⟨u0, x0⟩ := HX.out w hSw
              go_simp
            simp only [Act.put, List.setIfInBounds_toArray, List.set_cons_zero, List.set_cons_succ]
            refine take_do (i := 10) (v := (.int .i64 (s i + (bs i).dy))) rfl (by kernel_rfl) (by kernel_rfl) (by kernel_rfl) (fun _ _ _ h => h) (by rfl) ?_ (by assumption) ?_
            · intro w hSw
              skip
              go_simp
            simp only [Act.put, List.setIfInBounds_toArray, List.set_cons_zero, List.set_cons_succ]
            refine take_do (i := 11) (v := (.bool false)) rfl (by kernel_rfl) (by kernel_rfl) (by kernel_rfl) (fun _ _ _ h => h) (by rfl) ?_ (by assumption) ?_
            · intro w hSw
              skip
              go_simp
            simp only [Act.put, List.setIfInBounds_toArray, List.set_cons_zero, List.set_cons_succ]
            refine wpAnyH_done (by kernel_rfl) ?_ _
            have HB9 : Hid (Below w.heap.size w wr.drew) := hB.out.drew
            obtain ⟨Z9, hZ9⟩ : ∃ Z9, Z9 = wr.drew := ⟨_, rfl⟩
            rw [← hZ9] at HB9 ⊢
            clear hHeld hZ9 hB HX hwr9
            go_wp2_with fail
            go_roundw
            case rel => exact ⟨i + 1, by omega, by go_num, HB9, fun j hj => by
              by_cases e : j = i
              · subst e; exact ⟨HLE.out, HDE.out⟩
              · exact hP.out j (by omega)⟩
            case measure => simp [intOf]; omega
    · obtain rfl : i = m := by omega
      go_wp2_with fail
      refine (specClash_yes a i k bs c ck s _ (H.out.below hB.out) HS.out (HCC.out.below hB.out) HRO.out).mono ?_
      rintro e w3 ⟨⟨a3, k3, rfl, _⟩, hb⟩
      replace hB : Hid (Below w.heap.size w w3) := hB.out.trans (hb.mono hB.out.size)
      clear hb
      obtain ⟨L, hL⟩ : ∃ L, L = Jb.out (Jb.cl bs s) i i := ⟨_, rfl⟩
      rw [← hL]
      have hLl : L.length ≤ 1000 := by
        rw [hL]
        have h1 := Jb.out_len (Jb.cl bs s) i i
        have : i * i ≤ 30 * 30 := Nat.mul_le_mul hm hm
        omega
      have HL := Lib.hid hL
      clear hL
      by_cases cl : L = []
      · have HE : Hid (dB (Jb.PlanS i bs crew s) = true) := dB_tt ⟨hP.out, by rw [HL.out] at cl; exact Jb.out_none.1 cl⟩
        have hl0 : L.length = 0 := by rw [cl]; rfl
        rw [hl0]
        clear cl hl0
        go_wp2_with fail
        go_ret
        exact ⟨by rw [HE.out]; rfl, hB.out⟩
      · have HE : Hid (dB (Jb.PlanS i bs crew s) = false) := dB_ff (fun k => cl (by rw [HL.out]; exact Jb.out_none.2 k.2))
        have hl0 : ¬ L.length = 0 := fun e => cl (List.eq_nil_of_length_eq_zero e)
        obtain ⟨N, hN⟩ : ∃ N, N = L.length := ⟨_, rfl⟩
        rw [← hN] at hl0 hLl ⊢
        have hl1 : ((N : Int) == 0) = false := by simp; omega
        clear cl hN
        go_wp2_with fail
        go_ret
        exact ⟨by rw [HE.out]; simp <;> omega, hB.out⟩
set_option maxRecDepth 100000 in
set_option maxHeartbeats 4000000 in
theorem specRight_no (a : Option Addr) (m k : Nat) (bs : Nat → Je) (crew : Int) (c : Option Addr) (n ck : Nat) (s : Nat → Int) (w : World) (h : JbsAt a m bs w) (hs : JSm m bs) (hc : IsAt c n s w) (hn : n ≤ 1048576) (hr : ¬ Jb.RosOk m bs n s) :
    Calls Try.prog 11 #[.slice a m k, .int .i64 crew, .slice c n ck] w fun e w' => e = .returned (.bool false) ∧ Below w.heap.size w w' := by
  have H := Lib.hid h
  have HS := Lib.hid hs
  have HCC := Lib.hid hc
  clear h hs hc
  by_cases c1 : 400 < m
  · have hz : (400 : Int) < (m : Int) := by omega
    clear c1 hr
    go_enter Try.func11, Try.ntmps11
    go_wp2_with fail
    go_ret
    exact ⟨rfl, Below.refl _ _⟩
  have hz : ¬ (400 : Int) < (m : Int) := by omega
  by_cases c2 : 400 < n
  · have hz2 : (400 : Int) < (n : Int) := by omega
    clear c1 c2 hr
    go_enter Try.func11, Try.ntmps11
    go_wp2_with fail
    go_ret
    exact ⟨rfl, Below.refl _ _⟩
  have hz2 : ¬ (400 : Int) < (n : Int) := by omega
  go_enter Try.func11, Try.ntmps11
  go_wp2_with fail
  clear c1 c2
  refine (specJobs_any a m k bs _ H.out HS.out).mono ?_
  rintro e w1 ⟨rfl, hb⟩
  have HBW : Hid (Below w.heap.size w w1) := hb
  clear hb
  by_cases c3 : JRight m bs
  · rw [dB_tt c3]
    by_cases c4 : n = m
    · subst c4
      have hzz : ((n : Int) == (n : Int)) = true := by simp
      have HR : Hid (¬ Jb.StOk n s) := fun k => hr ⟨c3, rfl, k⟩
      clear c3 hr
      go_wp2_with fail
      refine (sallS_any c n ck s _ (HCC.out.below HBW.out) (by omega)).mono ?_
      rintro e w2 ⟨rfl, hb⟩
      rw [dB_ff HR.out]
      replace HBW : Hid (Below w.heap.size w w2) := HBW.out.trans (hb.mono HBW.out.size)
      clear hb
      go_wp2_with fail
      go_ret
      exact ⟨rfl, HBW.out⟩
    · have c4z : ¬ ((n : Int) = (m : Int)) := by omega
      clear c3 hr c4
      go_wp2_with fail
      go_ret
      exact ⟨rfl, HBW.out⟩
  · rw [dB_ff c3]
    clear c3 hr
    go_wp2_with fail
    go_ret
    exact ⟨rfl, HBW.out⟩
theorem specRight_any (a : Option Addr) (m k : Nat) (bs : Nat → Je) (crew : Int) (c : Option Addr) (n ck : Nat) (s : Nat → Int) (w : World) (h : JbsAt a m bs w) (hs : JSm m bs) (hc : IsAt c n s w) (hn : n ≤ 1048576) :
    Calls Try.prog 11 #[.slice a m k, .int .i64 crew, .slice c n ck] w fun e w' => e = .returned (.bool (dB (Jb.WOk m bs crew n s))) ∧ Below w.heap.size w w' := by
  by_cases hr : Jb.RosOk m bs n s
  · have e : n = m := hr.2.1
    subst e
    have e2 : dB (Jb.WOk n bs crew n s) = dB (Jb.PlanS n bs crew s) := dB_congr ⟨fun k => (Jb.planP_iff (fun j hj => by have := (hr.1.2 j hj).c; omega)).1 k.2, fun k => ⟨hr, (Jb.planP_iff (fun j hj => by have := (hr.1.2 j hj).c; omega)).2 k⟩⟩
    rw [e2]
    exact specRight_yes a n k bs crew c ck s w h hs hc hr
  · have e2 : dB (Jb.WOk m bs crew n s) = false := dB_ff (fun k => hr k.1)
    rw [e2]
    exact specRight_no a m k bs crew c n ck s w h hs hc hn hr
end Go.Proofs.Ytganlipebndeoaa
