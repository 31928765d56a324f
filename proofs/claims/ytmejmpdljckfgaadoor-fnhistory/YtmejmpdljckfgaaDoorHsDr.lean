/-
  The draws of histories.
-/
import Derived.Test.YtmejmpdljckfgaaDoorHsUp
import Derived.Test.YtmejmpdljckfgaaDoorDrawA
import Derived.Test.YtmejmpdljckfgaaDoorSource
namespace Go.Proofs.YtmejmpdljckfgaaDoor
open Go.RowKit Go.Deep

/-- Values that are drawn: the source, the old memory but its block, the list. -/
structure DhS (sb : Nat) (w : World) (v : Value) (l : List Int) (W : World) : Prop where
  src : Src sb W
  chg : Chg sb w W
  own : W.ownsRow w.heap.size 2 1 v l.length (hV l)
theorem DhS.draw {sb : Nat} {w : World} {v : Value} {l : List Int} {W W' : World} (hs : sb < w.heap.size) (h : DhS sb w v l W) (hd : Drew sb W W') : DhS sb w v l W' :=
  ⟨hd.1, h.chg.trans hd.2, hown_keep h.own (fun k e hk => hd.2.2.2.2.2 k hk (fun e2 => by have := (World.ownsRow.lt h.own k e).1; omega))⟩
theorem DhS.push {sb : Nat} {w : World} {v v' : Value} {l : List Int} {x : Int} {W W' : World} {o : Obj} (hs : sb < w.heap.size) (h : DhS sb w v l W) (hg : (W.alloc o).grownBy W' v.ownBlock) (hown : W'.ownsRow w.heap.size 2 1 v' (l ++ [x]).length (hV (l ++ [x]))) : DhS sb w v' (l ++ [x]) W' := by
  have hw := h.chg.size
  have hsz := hg.size
  rw [World.size_alloc] at hsz
  have hb : ∀ k, k < W.heap.size → v.ownBlock ≠ some k → W'.heap[k]? = W.heap[k]? := fun k hk hn => (hg.block k (by simp; omega) (fun e => hn e.symm)).trans (Below.heap_alloc _ _ _ hk)
  refine ⟨?_, ?_, hown⟩
  · have hlow : ∀ k, v.ownBlock = some k → w.heap.size ≤ k := fun k e => (World.ownsRow.lt h.own k e).1
    obtain ⟨a, len, cap, at_, mix, size, hc, h1, h2, h3, h4, h5, h6⟩ := h.src
    have hsb : W'.heap[sb]? = W.heap[sb]? := hb sb (by omega) (fun e => by have := hlow _ e; omega)
    have hcc : ∀ i, W'.cell? ⟨sb, i, none⟩ = W.cell? ⟨sb, i, none⟩ := fun i => World.cell?_of_block (w := W) (a := ⟨sb, i, none⟩) hsb
    have hff : ∀ i, W'.frozen? ⟨sb, i, none⟩ = W.frozen? ⟨sb, i, none⟩ := fun i => World.frozen?_of_block (w := W) (a := ⟨sb, i, none⟩) hsb
    refine ⟨a, len, cap, at_, mix, size, ?_, h1, h2, h3, h4, h5, fun i hi => ?_⟩
    · obtain ⟨c0, c1, c2, c3, f0, f1, f2, f3⟩ := hc
      exact ⟨(hcc 0).trans c0, (hcc 1).trans c1, (hcc 2).trans c2, (hcc 3).trans c3, (hff 0).trans f0, (hff 1).trans f1, (hff 2).trans f2, (hff 3).trans f3⟩
    · obtain ⟨cb, co, z, e1, e2, e3, e4⟩ := h6 i hi
      refine ⟨cb, co, z, e1, e2, ?_, e4⟩
      have hcb : W'.heap[cb]? = W.heap[cb]? := hb cb (by omega) (fun e => by have := hlow _ e; omega)
      exact (World.cell?_of_block (w := W) (a := ⟨cb, co + i, none⟩) hcb).trans e3
  · refine ⟨hg.os.trans h.chg.1, hg.tape.trans h.chg.2.1, hg.output.trans h.chg.2.2.1, by omega, fun k hk hn => ?_⟩
    exact (hb k (by omega) (fun e => by have := (World.ownsRow.lt h.own k e).1; omega)).trans (h.chg.2.2.2.2 k hk hn)
set_option maxRecDepth 100000 in
set_option maxHeartbeats 8000000 in
theorem dseries_any (sb : Nat) (w : World) (h : Src sb w) :
    Calls Tryd.prog 50 #[.pointer (some ⟨sb, 0, none⟩)] w fun e w' => (∃ a k n F, e = .returned (.slice a n k) ∧ CyO 2 w.heap.size n a k F w' ∧ n ≤ 302) ∧ Drew sb w w' := by
  obtain ⟨i0, hi0, hz0, hz1, hz2⟩ := info_parts hinfo_int
  have hsb := h.lt
  obtain ⟨W, hW⟩ : ∃ W, W = w.alloc (.cells #[] 2) := ⟨_, rfl⟩
  have HS0 : Hid (DhS sb w (.slice (some ⟨w.heap.size, 0, none⟩) 0 0) [] W) := by
    show DhS _ _ _ _ _
    rw [hW]
    exact ⟨h.below (nbel_alloc _ _), Chg.of_below (nbel_alloc _ _), World.ownsRow_made (e := 2) (size := 1) w #[] 0 (Nat.le_refl _) (Nat.zero_le _) rfl⟩
  have hq := HS0.out.src
  obtain ⟨qa, ql, qc, at_, mix, size, hc, _, _, _, hs0, hs12, _⟩ := hq
  have c3 := hc.2.2.2.1
  have hms : 0 ≤ 3 * size ∧ 3 * size ≤ 36 := by omega
  rw [hW] at c3
  have HW := Lib.hid hW
  have HSB := Lib.hid hsb
  clear hW h hc
  go_enter Tryd.func50, Tryd.ntmps50
  go_wp2_with fail
  rw [← HW.out]
  clear HW c3
  refine (n_any sb _ _ HS0.out.src (by omega)).mono ?_
  rintro e w1 ⟨⟨n0, rfl, u0, u1, _⟩, hD⟩
  have hn0 : n0 ≤ 44 := by have := u1 (by omega); omega
  have HS1 := Lib.hid (HS0.out.draw HSB.out hD)
  clear hD u1 HS0
  go_wp2_with fail
  refine (one_any _ _ _ HS1.out.src (by omega)).mono ?_
  rintro e w2 ⟨⟨b, rfl⟩, hD⟩
  have HS2 := Lib.hid (HS1.out.draw HSB.out hD)
  clear hD HS1
  go_upto_if 16 with fail
  go_cut [4] from 17 to 19 (fun nv wx => ∃ n1 : Nat, nv = .int .i64 (n1 : Nat) ∧ n1 ≤ 301 ∧ Hid (DhS sb w (.slice (some ⟨w.heap.size, 0, none⟩) 0 0) [] wx))
  case first =>
    cases b
    · go_wp2_with fail
      go_meet
      case rel => exact ⟨n0.toNat, by rw [Int.toNat_of_nonneg u0], by omega, HS2⟩
    · go_wp2_with fail
      refine (n_any sb 3 _ HS2.out.src (by omega)).mono ?_
      rintro e w4 ⟨⟨y, rfl, y0, y1, _⟩, hD⟩
      have y2 : y < 3 := y1 (by omega)
      have HS3 := Lib.hid (HS2.out.draw HSB.out hD)
      clear hD y1
      go_wp2_with fail
      go_meet
      case rel => exact ⟨(299 + y).toNat, by rw [Int.toNat_of_nonneg (by omega)], by omega, HS3⟩
  case rest =>
    clear HS2 u0 hn0
    obtain ⟨n1, rfl, hn1, HS2⟩ := hcut
    obtain ⟨W1, hW1⟩ : ∃ w', w' = wc := ⟨_, rfl⟩
    rw [← hW1] at HS2 ⊢
    clear hW1
    go_wp2_with fail
    refine (n_any sb 100 _ HS2.out.src (by omega)).mono ?_
    rintro e w5 ⟨⟨v0, rfl, v00, v01, _⟩, hD⟩
    have v02 : v0 < 100 := v01 (by omega)
    have HS3 := Lib.hid (HS2.out.draw HSB.out hD)
    clear hD v01 HS2
    go_wp2_with fail
    go_loopw [3, 4, 5] (fun lv nv vv wr => ∃ (m : Nat) (x : Int) (l : List Int), m + l.length ≤ 301 ∧ nv = .int .i64 (m : Nat) ∧ vv = .int .i64 x ∧ -50 - 6 * (l.length : Int) ≤ x ∧ x ≤ 50 + 6 * (l.length : Int) ∧ Hid (DhS sb w lv l wr)) (fun _ nv _ _ => (intOf nv).toNat)
    case atStart => exact ⟨n1, v0 - 50, [], by simp; omega, rfl, rfl, by simp; omega, by simp; omega, HS3⟩
    case round =>
      obtain ⟨m, x, l, hml, rfl, rfl, hx0, hx1, hS⟩ := hrel
      clear HS3
      by_cases hm : 0 < m
      · have hmz : (0 : Int) < (m : Int) := by omega
        have HMZ : Hid ((m : Int) - 1 = ((m - 1 : Nat) : Int)) := by show _ = _; omega
        go_wp2_with fail
        refine (one_any _ _ _ hS.out.src (by omega)).mono ?_
        rintro e w6 ⟨⟨b2, rfl⟩, hD⟩
        have HS4 := Lib.hid (hS.out.draw HSB.out hD)
        clear hD hS
        cases b2
        · go_wp2_with fail
          refine (n_any sb 13 _ HS4.out.src (by omega)).mono ?_
          rintro e w7 ⟨⟨z, rfl, z0, z1, _⟩, hD⟩
          have z2 : z < 13 := z1 (by omega)
          have HS5 := Lib.hid (HS4.out.draw HSB.out hD)
          clear hD z1 HS4
          have hw1 : IntKind.i64.wrap (x + z) = x + z := Hs.wrapid (by omega) (by omega)
          have hw2 : IntKind.i64.wrap (x + z - 6) = x + z - 6 := Hs.wrapid (by omega) (by omega)
          have HSA := Lib.hid (World.ownsRow.alloc HS5.out.own (.cells #[.int .i64 (x + z - 6)] 2))
          have hsz := HS5.out.chg.size
          have hll : l.length ≤ 301 := by omega
          go_wp2_with (at_builtin; refine wpList_append_own _ rfl _ _ 56 rfl w.heap.size 2 i0 _ 1 8 Tryd.underlying56 hi0 hz0 hz1 hz2 rfl (by decide) _ _ _ rfl HSA.out ⟨w7.heap.size, 0, none⟩ 1 1 [.int .i64 (x + z - 6)] rfl rfl (fun j u hj => by match j, hj with | 0, hj => simp at hj; subst hj; exact (rowN_alloc w7 [.int .i64 (x + z - 6)] 2).cell (i := 0) (by simp)) (fun u hu => by simp at hu; subst hu; rfl) (by unfold maxLen; omega) (by omega) (by simp; omega) ?_)
          intro v' W3 hown hgrow hnil
          have HP : Hid (DhS sb w v' (l ++ [x + z - 6]) W3) := HS5.out.push HSB.out hgrow (by rw [hV_app, List.length_append]; exact hown)
          clear hown hgrow hnil HSA HS5
          go_wp2_with fail
          go_roundw
          case rel => exact ⟨m - 1, x + z - 6, l ++ [x + z - 6], by simp; omega, by rw [HMZ.out], rfl, by simp; omega, by simp; omega, HP⟩
          case measure => simp [intOf]; omega
        · have HS5 := HS4
          clear HS4
          have HSA := Lib.hid (World.ownsRow.alloc HS5.out.own (.cells #[.int .i64 (x)] 2))
          have hsz := HS5.out.chg.size
          have hll : l.length ≤ 301 := by omega
          go_wp2_with (at_builtin; refine wpList_append_own _ rfl _ _ 56 rfl w.heap.size 2 i0 _ 1 8 Tryd.underlying56 hi0 hz0 hz1 hz2 rfl (by decide) _ _ _ rfl HSA.out ⟨w6.heap.size, 0, none⟩ 1 1 [.int .i64 (x)] rfl rfl (fun j u hj => by match j, hj with | 0, hj => simp at hj; subst hj; exact (rowN_alloc w6 [.int .i64 (x)] 2).cell (i := 0) (by simp)) (fun u hu => by simp at hu; subst hu; rfl) (by unfold maxLen; omega) (by omega) (by simp; omega) ?_)
          intro v' W3 hown hgrow hnil
          have HP : Hid (DhS sb w v' (l ++ [x]) W3) := HS5.out.push HSB.out hgrow (by rw [hV_app, List.length_append]; exact hown)
          clear hown hgrow hnil HSA HS5
          go_wp2_with fail
          go_roundw
          case rel => exact ⟨m - 1, x, l ++ [x], by simp; omega, by rw [HMZ.out], rfl, by simp; omega, by simp; omega, HP⟩
          case measure => simp [intOf]; omega
      · obtain rfl : m = 0 := by omega
        obtain ⟨a, k, rfl, hcy⟩ := cyo_ints hS.out.own
        have HCY := Lib.hid hcy
        obtain ⟨N, hN⟩ : ∃ N, N = l.length := ⟨_, rfl⟩
        rw [← hN] at HCY ⊢
        have hN2 : N ≤ 301 := by omega
        have HSR := Lib.hid hS.out.src
        have HCG := Lib.hid hS.out.chg
        clear hcy hS hN hml hx0 hx1
        go_wp2_with fail
        refine (one_any _ _ _ HSR.out (by omega)).mono ?_
        rintro e w6 ⟨⟨b2, rfl⟩, hD⟩
        have HSR2 := Lib.hid hD.1
        have HCG2 := Lib.hid (HCG.out.trans hD.2)
        have HCY2 : Hid (CyO 2 w.heap.size N a k (fun j => l.getD j 0) w6) := HCY.out.keep (fun q e h1 h2 => hD.2.2.2.2.2 q h2 (fun e2 => by have := HSB.out; omega))
        clear hD HSR HCG HCY
        cases b2
        · go_wp2_with fail
          go_ret
          exact ⟨⟨a, k, N, _, rfl, HCY2.out, by omega⟩, HSR2.out, HCG2.out⟩
        · by_cases h0 : N = 0
          · subst h0
            have hz : ¬ (0 : Int) < ((0 : Nat) : Int) := by omega
            go_wp2_with fail
            go_ret
            exact ⟨⟨a, k, 0, _, rfl, HCY2.out, by omega⟩, HSR2.out, HCG2.out⟩
          · have hz : (0 : Int) < (N : Int) := by omega
            obtain ⟨g, rfl, hgB, hblk⟩ : ∃ g, a = some ⟨g, 0, none⟩ ∧ w.heap.size ≤ g ∧ IsBlk 2 g N (fun j => l.getD j 0) w6 := by
              rcases HCY2.out with h | h
              · omega
              · exact h
            have HBK := Lib.hid hblk
            have HGB := Lib.hid hgB
            clear hblk hgB HCY2 h0
            go_wp2_with fail
            refine (n_any sb (N : Int) _ HSR2.out (by omega)).mono ?_
            rintro e w7 ⟨⟨p, rfl, p0, p1, p2⟩, hD⟩
            have hpN : p < (N : Int) := by
              by_cases h1 : (1 : Int) < (N : Int)
              · exact p1 h1
              · have := p2 (by omega); omega
            obtain ⟨q, rfl⟩ : ∃ q : Nat, p = q := ⟨p.toNat, by omega⟩
            have HSR3 := Lib.hid hD.1
            have HCG3 := Lib.hid (HCG2.out.trans hD.2)
            have HBK3 : Hid (IsBlk 2 g N (fun j => l.getD j 0) w7) := HBK.out.block (hD.2.2.2.2.2 g HBK.out.lt (fun e2 => by have := HSB.out; have := HGB.out; omega))
            clear hD p1 p2 HSR2 HCG2 HBK
            have HSR4 := Lib.hid (HSR3.out.below (nbel_alloc w7 (.cells #[.int .i64 1000000, .int .i64 (-1000000), .int .i64 1000001] 2)))
            go_wp2_with fail
            refine (n_any sb 3 _ HSR4.out (by omega)).mono ?_
            rintro e w8 ⟨⟨r, rfl, r0, r1, _⟩, hD⟩
            have r2 : r < 3 := r1 (by omega)
            have hba : Below w7.heap.size w7 (w7.alloc (.cells #[.int .i64 1000000, .int .i64 (-1000000), .int .i64 1000001] 2)) := nbel_alloc _ _
            have HSR5 := Lib.hid hD.1
            have HCG5 := Lib.hid ((HCG3.out.trans (Chg.of_below hba)).trans hD.2)
            have HBK5 : Hid (IsBlk 2 g N (fun j => l.getD j 0) w8) := (HBK3.out.below hba).block (hD.2.2.2.2.2 g (by have := HBK3.out.lt; simp; omega) (fun e2 => by have := HSB.out; have := HGB.out; omega))
            have hrow : w8.rowIs w7.heap.size 2 3 (rowN [.int .i64 1000000, .int .i64 (-1000000), .int .i64 1000001]) := (rowN_alloc w7 [.int .i64 1000000, .int .i64 (-1000000), .int .i64 1000001] 2).of_block (hD.2.2.2.2.2 w7.heap.size (by simp) (fun e2 => by have := HSR3.out.lt; omega))
            obtain ⟨⟨d0, d1, d2⟩, _⟩ := rowN3 hrow
            obtain ⟨t, rfl⟩ : ∃ t : Nat, r = t := ⟨r.toNat, by omega⟩
            obtain ⟨u, hu⟩ : ∃ u : Int, w8.cell? ⟨w7.heap.size, t, none⟩ = some (.int .i64 u) := by
              have : t = 0 ∨ t = 1 ∨ t = 2 := by omega
              rcases this with rfl | rfl | rfl
              · exact ⟨_, d0⟩
              · exact ⟨_, d1⟩
              · exact ⟨_, d2⟩
            have HGE : Hid (Src sb (w8.setCell ⟨g, q, none⟩ (.int .i64 u)) ∧ Chg sb w (w8.setCell ⟨g, q, none⟩ (.int .i64 u))) := by
              have hgsb : g ≠ sb := by have := HSB.out; have := HGB.out; omega
              have hsame : ∀ k, k ≠ g → (w8.setCell ⟨g, q, none⟩ (.int .i64 u)).heap[k]? = w8.heap[k]? := fun k hk => Below.heap_setCell _ _ _ _ hk
              have hcg : Chg sb w (w8.setCell ⟨g, q, none⟩ (.int .i64 u)) := ⟨HCG5.out.1, HCG5.out.2.1, HCG5.out.2.2.1, by have := HCG5.out.size; simpa using this, fun k hk hn => (hsame k (by have := HGB.out; omega)).trans (HCG5.out.2.2.2.2 k hk hn)⟩
              refine ⟨?_, hcg⟩
              obtain ⟨a', len', cap', at', mix', size', hc', h1', h2', h3', h4', h5', h6'⟩ := HSR5.out
              have hcc : ∀ i, (w8.setCell ⟨g, q, none⟩ (.int .i64 u)).cell? ⟨sb, i, none⟩ = w8.cell? ⟨sb, i, none⟩ := fun i => World.cell?_of_block (w := w8) (a := ⟨sb, i, none⟩) (hsame sb (Ne.symm hgsb))
              have hff : ∀ i, (w8.setCell ⟨g, q, none⟩ (.int .i64 u)).frozen? ⟨sb, i, none⟩ = w8.frozen? ⟨sb, i, none⟩ := fun i => World.frozen?_of_block (w := w8) (a := ⟨sb, i, none⟩) (hsame sb (Ne.symm hgsb))
              refine ⟨a', len', cap', at', mix', size', ?_, h1', h2', h3', h4', h5', fun i hi => ?_⟩
              · obtain ⟨c0, c1, c2, c3, f0, f1, f2, f3⟩ := hc'
                exact ⟨(hcc 0).trans c0, (hcc 1).trans c1, (hcc 2).trans c2, (hcc 3).trans c3, (hff 0).trans f0, (hff 1).trans f1, (hff 2).trans f2, (hff 3).trans f3⟩
              · obtain ⟨cb, co, z, e1, e2, e3, e4⟩ := h6' i hi
                exact ⟨cb, co, z, e1, e2, (World.cell?_of_block (w := w8) (a := ⟨cb, co + i, none⟩) (hsame cb (by have := HSB.out; have := HGB.out; omega))).trans e3, e4⟩
            have HBK6 := Lib.hid (HBK5.out.set q u)
            have y0 := HBK5.out.cell (i := q) (by omega)
            have z0 := HBK5.out.frozen q
            have hgl := HBK5.out.lt
            have hrl := hrow.lt
            have htz : (t : Int) < 3 := by omega
            have hqz : (q : Int) < (N : Int) := hpN
            clear hD r1 hba hrow d0 d1 d2 HSR3 HCG3 HBK3 HSR4 HSR5 HCG5 HBK5
            go_wp2_with fail
            go_ret
            exact ⟨⟨_, _, N, _, rfl, Or.inr ⟨g, rfl, HGB.out, HBK6.out⟩, by omega⟩, HGE.out⟩
end Go.Proofs.YtmejmpdljckfgaaDoor
