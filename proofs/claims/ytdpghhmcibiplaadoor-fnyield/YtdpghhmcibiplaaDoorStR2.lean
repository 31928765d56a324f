/-
  The contract of the program's StoreRun.
-/
import Derived.Test.YtdpghhmcibiplaaDoorStR1
namespace Go.Proofs.YtdpghhmcibiplaaDoor
open Go.RowKit Go.Deep

set_option maxRecDepth 100000 in
set_option maxHeartbeats 4000000 in
theorem implRun_any (ca : Option Addr) (cn ck : Nat) (c : Nat → St.Pr) (ra : Option Addr) (rn rk : Nat) (r : Nat → St.Pr) (v : Int) (ia : Option Addr) (n ik : Nat) (ins : Nat → Int) (wa : Option Addr) (m wk : Nat) (wants : Nat → Int) (w : World) (h : StAt ca cn c ra rn r w) (hI : IntsAt ia n ins w) (hQ : IntsAt wa m wants w) (hn : n ≤ 1048576) (hm : m ≤ 1048576) (hg : Et w) (ht : TabOk w) :
    Calls Tryd.prog 42 #[stV ca cn ck ra rn rk v, .slice ia n ik, .slice wa m wk] w fun e w' => (∃ z, e = .returned (ansV z) ∧ Hid (RunIs cn c rn r v n ins m wants z)) ∧ Below w.heap.size w w' := by
  obtain ⟨W, hW⟩ : ∃ W, W = (w.alloc (.cells #[.slice ca cn ck, .slice ra rn rk, .int .i64 v] 66)).alloc zOutO := ⟨_, rfl⟩
  have hGW : Gr w W := by rw [hW]; exact ((Gr.refl _).alloc _).alloc _
  have RO : W.rowIs (w.heap.size + 1) 61 6 (r6 (.int .i64 0) (.int .i64 0) (.int .i64 0) (.int .i64 0) (.int .i64 0) (.int .i64 0)) := by
    rw [hW]
    have := row6 (w.alloc (.cells #[.slice ca cn ck, .slice ra rn rk, .int .i64 v] 66)) (.int .i64 0) (.int .i64 0) (.int .i64 0) (.int .i64 0) (.int .i64 0) (.int .i64 0) 61
    rwa [World.size_alloc] at this
  have HGW := Lib.hid hGW
  have HW := Lib.hid hW
  have HS := Lib.hid (h.gr hGW)
  have HI := Lib.hid (hI.below hGW.bel)
  have HQ := Lib.hid (hQ.below hGW.bel)
  have HET := Lib.hid (hg.below hGW.bel)
  have HT := Lib.hid (tab_below ht hGW.bel)
  have HRO := Lib.hid RO
  have hle : w.heap.size ≤ w.heap.size + 1 := by omega
  have HLE := Lib.hid hle
  clear hGW hW h hI hQ hg ht RO hle
  by_cases hbig : 400 < n ∨ 400 < m
  · have HSI : Hid (RunIs cn c rn r v n ins m wants ⟨0, 0, 0, 0, 0, 2⟩) := ⟨fun _ => rfl, fun h => absurd hbig h, fun h => absurd hbig h⟩
    have key : ∀ (K : Prop), ((400 : Int) < (n : Int) → K) → (¬ (400 : Int) < (n : Int) → (400 : Int) < (m : Int) → K) → K := fun K k1 k2 => by
      by_cases hn : (400 : Int) < (n : Int)
      · exact k1 hn
      · exact k2 hn (by omega)
    clear hbig
    refine key _ (fun hz => ?_) (fun hz hz2 => ?_)
    all_goals
      clear key
      go_enter Tryd.func42, Tryd.ntmps42
      go_wp2_with fail
      rw [← HW.out]
      refine (tellS_bad ⟨0, 0, 0, 0, 0, 0⟩ (errV ⟨#[97, 32, 114, 117, 110]⟩ 2) 2 _ (errIs_one _ _) HET.out).mono ?_
      rintro e W2 ⟨rfl, hb⟩
      have HB2 : Hid (Below w.heap.size w W2) := HGW.out.bel.trans (hb.mono HGW.out.bel.size)
      have HR2 := Lib.hid (srow_below HRO.out hb)
      obtain ⟨⟨o0, o1, o2, o3, o4, o5⟩, z0, z1, z2, z3, z4, z5⟩ := row6_cells HR2.out
      clear hb
      go_wp2_with fail
      refine bodyPost_ret (v := ansV ⟨0, 0, 0, 0, 0, 2⟩) ?_ rfl ⟨⟨_, rfl, HSI⟩, below_put6 HB2.out HLE.out _ _ _ _ _ _⟩
      obtain ⟨⟨x0, x1, x2, x3, x4, x5⟩, _⟩ := row6_cells (row6_put HR2.out (.int .i64 0) (.int .i64 0) (.int .i64 0) (.int .i64 0) (.int .i64 0) (.int .i64 2))
      simp only [results, Tryd.results42]
      simp [go_sem, x0, x1, x2, x3, x4, x5]
  have hz : ¬ (400 : Int) < (n : Int) := by omega
  have hz2 : ¬ (400 : Int) < (m : Int) := by omega
  have HBG := Lib.hid hbig
  have hn4 : n ≤ 400 := by omega
  have hm4 : m ≤ 400 := by omega
  have HN4 := Lib.hid (And.intro hn4 hm4)
  clear hbig hn4 hm4
  go_enter Tryd.func42, Tryd.ntmps42
  go_wp2_with fail
  rw [← HW.out]
  refine (runStore_any ca cn ck c ra rn rk r v ia n ik ins wa m wk wants _ HS.out HI.out HQ.out HN4.out.1 HN4.out.2 HT.out).mono ?_
  rintro e W1 ⟨hend, hb1⟩
  have HB1 : Hid (Below w.heap.size w W1) := HGW.out.bel.trans (hb1.mono HGW.out.bel.size)
  have HR1 := Lib.hid (srow_below HRO.out hb1)
  have HE1 := Lib.hid (HET.out.below hb1)
  clear hb1
  rcases hend with ⟨hok, rfl⟩ | ⟨hno, er, rfl, her⟩
  · have HSI : Hid (RunIs cn c rn r v n ins m wants ⟨(St.runS rn r (St.full cn c) v ins wants n).vol, (St.runS rn r (St.full cn c) v ins wants n).giv, (St.runS rn r (St.full cn c) v ins wants n).spl, (St.runS rn r (St.full cn c) v ins wants n).sho, (St.runS rn r (St.full cn c) v ins wants n).wor, 0⟩) := ⟨fun h => absurd h HBG.out, fun _ h => absurd hok h, fun _ _ => rfl⟩
    generalize St.runS rn r (St.full cn c) v ins wants n = s at *
    clear hok
    go_wp2_with fail
    refine (tellS_ok ⟨s.vol, s.giv, s.spl, s.sho, s.wor, 0⟩ _).mono ?_
    rintro e W2 ⟨rfl, hb⟩
    have HB2 : Hid (Below w.heap.size w W2) := HB1.out.trans (hb.mono HB1.out.size)
    have HR2 := Lib.hid (srow_below HR1.out hb)
    obtain ⟨⟨o0, o1, o2, o3, o4, o5⟩, z0, z1, z2, z3, z4, z5⟩ := row6_cells HR2.out
    clear hb
    go_wp2_with fail
    refine bodyPost_ret (v := ansV ⟨s.vol, s.giv, s.spl, s.sho, s.wor, 0⟩) ?_ rfl ⟨⟨_, rfl, HSI⟩, below_put6 HB2.out HLE.out _ _ _ _ _ _⟩
    obtain ⟨⟨x0, x1, x2, x3, x4, x5⟩, _⟩ := row6_cells (row6_put HR2.out (.int .i64 s.vol) (.int .i64 s.giv) (.int .i64 s.spl) (.int .i64 s.sho) (.int .i64 s.wor) (.int .i64 0))
    simp only [results, Tryd.results42]
    simp [go_sem, x0, x1, x2, x3, x4, x5]
  · have HSI : Hid (RunIs cn c rn r v n ins m wants ⟨0, 0, 0, 0, 0, 1⟩) := ⟨fun h => absurd h HBG.out, fun _ _ => rfl, fun _ h => absurd h hno⟩
    clear hno
    obtain ⟨ey, rfl, hey⟩ := her
    have HER : Hid (ErrIs (.iface 101 ey) 1) := ⟨ey, rfl, hey⟩
    clear hey
    go_wp2_with fail
    refine (tellS_bad ⟨0, 0, 0, 0, 0, 0⟩ (.iface 101 ey) 1 _ HER.out HE1.out).mono ?_
    rintro e W2 ⟨rfl, hb⟩
    have HB2 : Hid (Below w.heap.size w W2) := HB1.out.trans (hb.mono HB1.out.size)
    have HR2 := Lib.hid (srow_below HR1.out hb)
    obtain ⟨⟨o0, o1, o2, o3, o4, o5⟩, z0, z1, z2, z3, z4, z5⟩ := row6_cells HR2.out
    clear hb
    go_wp2_with fail
    refine bodyPost_ret (v := ansV ⟨0, 0, 0, 0, 0, 1⟩) ?_ rfl ⟨⟨_, rfl, HSI⟩, below_put6 HB2.out HLE.out _ _ _ _ _ _⟩
    obtain ⟨⟨x0, x1, x2, x3, x4, x5⟩, _⟩ := row6_cells (row6_put HR2.out (.int .i64 0) (.int .i64 0) (.int .i64 0) (.int .i64 0) (.int .i64 0) (.int .i64 1))
    simp only [results, Tryd.results42]
    simp [go_sem, x0, x1, x2, x3, x4, x5]
end Go.Proofs.YtdpghhmcibiplaaDoor
