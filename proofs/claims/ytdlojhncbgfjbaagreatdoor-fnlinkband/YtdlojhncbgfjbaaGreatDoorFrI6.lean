/-
  The contract of the program's reading of one frame by a scanner, where there is one.
-/
import Derived.Test.YtdlojhncbgfjbaaGreatDoorFrI5
namespace Go.Proofs.YtdlojhncbgfjbaaGreatDoor
open Go.RowKit Go.Deep

theorem frame_cells {W : World} {F p U : Nat} {a0 a1 a2 a3 : Value} (hF : F ≠ U) (hp : p ≠ U) (c0 : W.cell? ⟨U, 0, none⟩ = some a0) (c1 : W.cell? ⟨U, 1, none⟩ = some a1) (c2 : W.cell? ⟨U, 2, none⟩ = some a2) (c3 : W.cell? ⟨U, 3, none⟩ = some a3) (b t x y z q : Value) :
    ((((((W.setCell ⟨F, 3, none⟩ b).setCell ⟨p, 1, none⟩ t).setCell ⟨U, 0, none⟩ x).setCell ⟨U, 1, none⟩ y).setCell ⟨U, 2, none⟩ z).setCell ⟨U, 3, none⟩ q).cell? ⟨U, 0, none⟩ = some x ∧ ((((((W.setCell ⟨F, 3, none⟩ b).setCell ⟨p, 1, none⟩ t).setCell ⟨U, 0, none⟩ x).setCell ⟨U, 1, none⟩ y).setCell ⟨U, 2, none⟩ z).setCell ⟨U, 3, none⟩ q).cell? ⟨U, 1, none⟩ = some y ∧ ((((((W.setCell ⟨F, 3, none⟩ b).setCell ⟨p, 1, none⟩ t).setCell ⟨U, 0, none⟩ x).setCell ⟨U, 1, none⟩ y).setCell ⟨U, 2, none⟩ z).setCell ⟨U, 3, none⟩ q).cell? ⟨U, 2, none⟩ = some z ∧ ((((((W.setCell ⟨F, 3, none⟩ b).setCell ⟨p, 1, none⟩ t).setCell ⟨U, 0, none⟩ x).setCell ⟨U, 1, none⟩ y).setCell ⟨U, 2, none⟩ z).setCell ⟨U, 3, none⟩ q).cell? ⟨U, 3, none⟩ = some q := by
  have e : ∀ j, ((W.setCell ⟨F, 3, none⟩ b).setCell ⟨p, 1, none⟩ t).cell? ⟨U, j, none⟩ = W.cell? ⟨U, j, none⟩ := fun j => by
    rw [World.cell?_setCell_far _ _ _ _ hp, World.cell?_setCell_far _ _ _ _ hF]
  have d0 := (e 0).trans c0
  have d1 := (e 1).trans c1
  have d2 := (e 2).trans c2
  have d3 := (e 3).trans c3
  generalize ((W.setCell ⟨F, 3, none⟩ b).setCell ⟨p, 1, none⟩ t) = V at *
  refine ⟨?_, ?_, ?_, ?_⟩
  · rw [World.cell?_setCell_other _ _ _ _ (by simp), World.cell?_setCell_other _ _ _ _ (by simp), World.cell?_setCell_other _ _ _ _ (by simp)]; exact World.cell?_setCell_same _ _ _ d0
  · rw [World.cell?_setCell_other _ _ _ _ (by simp), World.cell?_setCell_other _ _ _ _ (by simp)]; exact World.cell?_setCell_same _ _ _ ((World.cell?_setCell_other _ _ _ _ (by simp)).trans d1)
  · rw [World.cell?_setCell_other _ _ _ _ (by simp)]; exact World.cell?_setCell_same _ _ _ ((World.cell?_setCell_other _ _ _ _ (by simp)).trans ((World.cell?_setCell_other _ _ _ _ (by simp)).trans d2))
  · exact World.cell?_setCell_same _ _ _ ((World.cell?_setCell_other _ _ _ _ (by simp)).trans ((World.cell?_setCell_other _ _ _ _ (by simp)).trans ((World.cell?_setCell_other _ _ _ _ (by simp)).trans d3)))

theorem frame_end {B p g cap o n F : Nat} {l : List UInt8} {w W : World} (hS : Scn B p g cap l o W) (hB : Below w.heap.size w W) (hpw : p < w.heap.size) (hgw : g < w.heap.size) (hF : w.heap.size < F) (hn : o + (8 + n) ≤ l.length) (t : Int) (ht : t = ((o + (8 + n) : Nat) : Int)) (b x y z q : Value) :
    Scn B p g cap l (o + (8 + n)) ((((((W.setCell ⟨F, 3, none⟩ b).setCell ⟨p, 1, none⟩ (.int .i64 t)).setCell ⟨w.heap.size, 0, none⟩ x).setCell ⟨w.heap.size, 1, none⟩ y).setCell ⟨w.heap.size, 2, none⟩ z).setCell ⟨w.heap.size, 3, none⟩ q) ∧ w.grownBy ((((((W.setCell ⟨F, 3, none⟩ b).setCell ⟨p, 1, none⟩ (.int .i64 t)).setCell ⟨w.heap.size, 0, none⟩ x).setCell ⟨w.heap.size, 1, none⟩ y).setCell ⟨w.heap.size, 2, none⟩ z).setCell ⟨w.heap.size, 3, none⟩ q) (some p) := by
  obtain ⟨h1, h2, h3, h4, h5, h6, h7, h8⟩ := hS
  refine ⟨⟨h1, h2, h3, h4, hn, h6, ?_, fun j hj => ?_⟩, ?_⟩
  · refine World.rowIs.setOther (World.rowIs.setOther (World.rowIs.setOther (World.rowIs.setOther (((h7.setOther (a := ⟨F, 3, none⟩) (by show p ≠ F; omega) b).set 1 (.int .i64 t)).congr (fun k hk => ?_)) (by show p ≠ w.heap.size; omega) x) (by show p ≠ w.heap.size; omega) y) (by show p ≠ w.heap.size; omega) z) (by show p ≠ w.heap.size; omega) q
    have hk2 : k = 0 ∨ k = 1 := by omega
    unfold scn2
    rcases hk2 with rfl | rfl
    · rfl
    · rw [ht]; rfl
  · rw [World.cell?_setCell_far _ _ _ _ (by show w.heap.size ≠ g; omega), World.cell?_setCell_far _ _ _ _ (by show w.heap.size ≠ g; omega), World.cell?_setCell_far _ _ _ _ (by show w.heap.size ≠ g; omega), World.cell?_setCell_far _ _ _ _ (by show w.heap.size ≠ g; omega), World.cell?_setCell_far _ _ _ _ (by show p ≠ g; omega), World.cell?_setCell_far _ _ _ _ (by show F ≠ g; omega)]
    exact h8 j hj
  · have hb0 := ((((((hB.mono (Nat.zero_le _)).setCell (p := ⟨F, 3, none⟩) (Nat.zero_le _) b).setCell (p := ⟨p, 1, none⟩) (Nat.zero_le _) (.int .i64 t)).setCell (p := ⟨w.heap.size, 0, none⟩) (Nat.zero_le _) x).setCell (p := ⟨w.heap.size, 1, none⟩) (Nat.zero_le _) y).setCell (p := ⟨w.heap.size, 2, none⟩) (Nat.zero_le _) z).setCell (p := ⟨w.heap.size, 3, none⟩) (Nat.zero_le _) q
    refine ⟨hb0.os, hb0.tape, hb0.output, hb0.size, fun k hk hkp => ?_⟩
    clear hb0
    have hkp' : k ≠ p := fun e => hkp (by rw [e])
    rw [blk_setCell_other _ _ _ _ (by show k ≠ w.heap.size; omega), blk_setCell_other _ _ _ _ (by show k ≠ w.heap.size; omega), blk_setCell_other _ _ _ _ (by show k ≠ w.heap.size; omega), blk_setCell_other _ _ _ _ (by show k ≠ w.heap.size; omega), blk_setCell_other _ _ _ _ (by show k ≠ p; omega), blk_setCell_other _ _ _ _ (by show k ≠ F; omega)]
    exact hB.block k hk

set_option maxRecDepth 100000 in
set_option maxHeartbeats 4000000 in
theorem frame_ok (B p g cap i : Nat) (l : List UInt8) (w : World) (h : Scn B p g cap l i w) (h0 : Fr.at8 (l.drop i) 0 = 126) (hl6 : 6 ≤ l.length - i) (hbad : headBad (l.drop i) = false) (hs : 8 + Fr.bodyLen (l.drop i) ≤ l.length - i) (hsum : Crc.sum (((l.drop i).drop 1).take (5 + Fr.bodyLen (l.drop i))) = ((l.drop i).getD (6 + Fr.bodyLen (l.drop i)) 0).toNat * 256 + ((l.drop i).getD (7 + Fr.bodyLen (l.drop i)) 0).toNat) :
    Calls Tryz.prog 105 #[.pointer (some ⟨p, 0, none⟩)] w fun e w' => e = .returned (.tuple #[.agg #[.int .i64 (Fr.at8 (l.drop i) 1), .int .i64 (Fr.at8 (l.drop i) 2), .int .i64 (Fr.seq (l.drop i)), .string ⟨(Fr.body (l.drop i)).toArray⟩], .nilIface]) ∧ Scn B p g cap l (i + (8 + Fr.bodyLen (l.drop i))) w' ∧ w.grownBy w' (some p) := by
  have HS := Lib.hid h
  have hn64 : Fr.bodyLen (l.drop i) ≤ 64 := by
    rcases Nat.lt_or_ge 64 (Fr.bodyLen (l.drop i)) with k | k
    · have := (headBad_iff (l.drop i)).2 (Or.inr k); rw [hbad] at this; cases this
    · exact k
  have hl20 : l.length ≤ 20000 := h.2.2.2.2.2.1
  have HH := Lib.hid (fun wx (hx : Scn B p g cap l i wx) => head_long B p g cap i l wx hx h0 hl6)
  have HBD := Lib.hid hbad
  have HSw := HS
  clear h h0 hbad
  go_enter Tryz.func105, Tryz.ntmps105
  go_wp2_with fail
  refine (HH.out _ (HS.out.below ((Below.refl _ _).alloc (Nat.le_refl _) _))).mono ?_
  rintro e w1 ⟨⟨v, rfl, hv⟩, hb⟩
  obtain rfl := hv.2 HBD.out
  have HS1 : Hid (Scn B p g cap l i w1) := HS.out.below (((Below.refl _ _).alloc (Nat.le_refl _) _).trans (hb.mono (by simp)))
  have HK1 : Hid (Below (w.heap.size + 1) (w.alloc frO) w1) := hb.mono (by simp)
  have hz1 : w.heap.size + 1 ≤ w1.heap.size := by have := HK1.out.size; simpa using this
  clear hb HH HS hv
  go_wp2_with fail
  refine (rest_any _ _ _ _ _ _ _ (HS1.out.below ((Below.refl _ _).alloc (Nat.le_refl _) _))).mono ?_
  rintro e w2 ⟨⟨o, c, rfl, hc, ho⟩, m, rfl⟩
  obtain rfl := ho (by omega)
  have HS2 : Hid (Scn B p g cap l o ((w1.alloc (.cells #[.int .i64 (Fr.at8 (l.drop o) 1), .int .i64 (Fr.at8 (l.drop o) 2), .int .i64 (Fr.seq (l.drop o)), .string ⟨#[]⟩] 70)).drewN m)) := HS1.out.below (below_drewN ((Below.refl _ _).alloc (Nat.le_refl _) _) m)
  obtain ⟨⟨c0, c1, c2, c3⟩, ⟨f0, f1, f2, f3⟩, hz, HB⟩ := kept4 (below_drewN (HK1.out.alloc hz1 (.cells #[.int .i64 (Fr.at8 (l.drop o) 1), .int .i64 (Fr.at8 (l.drop o) 2), .int .i64 (Fr.seq (l.drop o)), .string ⟨#[]⟩] 70)) m)
  have z0 : ((w1.alloc (.cells #[.int .i64 (Fr.at8 (l.drop o) 1), .int .i64 (Fr.at8 (l.drop o) 2), .int .i64 (Fr.seq (l.drop o)), .string ⟨#[]⟩] 70)).drewN m).cell? ⟨w1.heap.size, 0, none⟩ = some (.int .i64 (Fr.at8 (l.drop o) 1)) := by show (w1.alloc (.cells #[.int .i64 (Fr.at8 (l.drop o) 1), .int .i64 (Fr.at8 (l.drop o) 2), .int .i64 (Fr.seq (l.drop o)), .string ⟨#[]⟩] 70)).cell? _ = _; rw [World.cell?_alloc_at _ _ _ _ rfl]; rfl
  have z1 : ((w1.alloc (.cells #[.int .i64 (Fr.at8 (l.drop o) 1), .int .i64 (Fr.at8 (l.drop o) 2), .int .i64 (Fr.seq (l.drop o)), .string ⟨#[]⟩] 70)).drewN m).cell? ⟨w1.heap.size, 1, none⟩ = some (.int .i64 (Fr.at8 (l.drop o) 2)) := by show (w1.alloc (.cells #[.int .i64 (Fr.at8 (l.drop o) 1), .int .i64 (Fr.at8 (l.drop o) 2), .int .i64 (Fr.seq (l.drop o)), .string ⟨#[]⟩] 70)).cell? _ = _; rw [World.cell?_alloc_at _ _ _ _ rfl]; rfl
  have z2 : ((w1.alloc (.cells #[.int .i64 (Fr.at8 (l.drop o) 1), .int .i64 (Fr.at8 (l.drop o) 2), .int .i64 (Fr.seq (l.drop o)), .string ⟨#[]⟩] 70)).drewN m).cell? ⟨w1.heap.size, 2, none⟩ = some (.int .i64 (Fr.seq (l.drop o))) := by show (w1.alloc (.cells #[.int .i64 (Fr.at8 (l.drop o) 1), .int .i64 (Fr.at8 (l.drop o) 2), .int .i64 (Fr.seq (l.drop o)), .string ⟨#[]⟩] 70)).cell? _ = _; rw [World.cell?_alloc_at _ _ _ _ rfl]; rfl
  have z3 : ((w1.alloc (.cells #[.int .i64 (Fr.at8 (l.drop o) 1), .int .i64 (Fr.at8 (l.drop o) 2), .int .i64 (Fr.seq (l.drop o)), .string ⟨#[]⟩] 70)).drewN m).cell? ⟨w1.heap.size, 3, none⟩ = some (.string ⟨#[]⟩) := by show (w1.alloc (.cells #[.int .i64 (Fr.at8 (l.drop o) 1), .int .i64 (Fr.at8 (l.drop o) 2), .int .i64 (Fr.seq (l.drop o)), .string ⟨#[]⟩] 70)).cell? _ = _; rw [World.cell?_alloc_at _ _ _ _ rfl]; rfl
  have zf : ((w1.alloc (.cells #[.int .i64 (Fr.at8 (l.drop o) 1), .int .i64 (Fr.at8 (l.drop o) 2), .int .i64 (Fr.seq (l.drop o)), .string ⟨#[]⟩] 70)).drewN m).frozen? ⟨w1.heap.size, 3, none⟩ = false := by show (w1.alloc (.cells #[.int .i64 (Fr.at8 (l.drop o) 1), .int .i64 (Fr.at8 (l.drop o) 2), .int .i64 (Fr.seq (l.drop o)), .string ⟨#[]⟩] 70)).frozen? _ = _; simp
  have hpF : p < w1.heap.size := HS1.out.2.2.2.2.2.2.1.lt
  have HGF : Hid (∀ j, j < l.length → g < w.heap.size) := fun j hj => World.block_lt_of_cell? _ _ (HSw.out.2.2.2.2.2.2.2 j hj)
  have hpw : p < w.heap.size := HSw.out.2.2.2.2.2.2.1.lt
  generalize (w1.alloc (.cells #[.int .i64 (Fr.at8 (l.drop o) 1), .int .i64 (Fr.at8 (l.drop o) 2), .int .i64 (Fr.seq (l.drop o)), .string ⟨#[]⟩] 70)).drewN m = W2 at *
  generalize w1.heap.size = F at *
  have n1 : p ≠ w.heap.size := by omega
  have n2 : p ≠ F := by omega
  have n3 : w.heap.size ≠ F := by omega
  have n4 : w.heap.size ≠ p := by omega
  have n5 : F ≠ p := by omega
  have n6 : F ≠ w.heap.size := by omega
  have pc : W2.cell? ⟨p, 1, none⟩ = some (.int .i64 (o : Int)) := HS2.out.2.2.2.2.2.2.1.cell (i := 1) (by omega)
  have pf : W2.frozen? ⟨p, 1, none⟩ = false := HS2.out.2.2.2.2.2.2.1.frozen 1
  obtain ⟨hlq, hcq⟩ := HS2.out.part 6 (Fr.bodyLen (l.drop o)) (by omega)
  have hbd : ((l.drop o).drop 6).take (Fr.bodyLen (l.drop o)) = Fr.body (l.drop o) := rfl
  have HCV : Hid (∀ k c, (convert 22 9 (.slice (some ⟨g, o + 6, none⟩) (Fr.bodyLen (l.drop o)) c)).run Tryz.prog (W2.drewN k) = .ok (.string ⟨(Fr.body (l.drop o)).toArray⟩) (W2.drewN k)) := fun k c => by
    have := run_convert_bytes_back (P := Tryz.prog) (W2.drewN k) 22 9 5 ⟨g, o + 6, none⟩ c (((l.drop o).drop 6).take (Fr.bodyLen (l.drop o))) Tryz.underlying22 Tryz.underlying5 Tryz.underlying9 (fun j hj => by
      have e : ((⟨g, o + 6, none⟩ : Addr).add j) = ⟨g, o + 6 + j, none⟩ := by unfold Addr.add; split <;> simp_all
      rw [e]
      exact hcq j hj)
    rw [hlq] at this
    rw [← hbd]
    exact this
  clear hbd hlq hcq
  have hcv := HCV.out
  have x6 := HS2.out.at (6 + Fr.bodyLen (l.drop o)) (by omega)
  have x7 := HS2.out.at (7 + Fr.bodyLen (l.drop o)) (by omega)
  obtain ⟨hlp, hcp⟩ := HS2.out.part 1 (5 + Fr.bodyLen (l.drop o)) (by omega)
  have HSM : Hid (∀ k c, Calls Tryz.prog 109 #[.slice (some ⟨g, o + 1, none⟩) (5 + Fr.bodyLen (l.drop o)) c] (W2.drewN k) fun e w' => e = .returned (.int .u32 (Crc.sum (((l.drop o).drop 1).take (5 + Fr.bodyLen (l.drop o))) : Int)) ∧ w' = W2.drewN k) := fun k c => by
    have := sumBytes_any (((l.drop o).drop 1).take (5 + Fr.bodyLen (l.drop o))) (some ⟨g, o + 1, none⟩) g (o + 1) c (by rw [hlp]; omega) (W2.drewN k) (fun _ => rfl) hcp
    rw [hlp] at this
    exact this
  unfold Fr.at8 at x6 x7
  have d6 := ((l.drop o).getD (6 + Fr.bodyLen (l.drop o)) 0).toNat_lt
  have d7 := ((l.drop o).getD (7 + Fr.bodyLen (l.drop o)) 0).toNat_lt
  generalize ((l.drop o).getD (6 + Fr.bodyLen (l.drop o)) 0).toNat = e6 at *
  generalize ((l.drop o).getD (7 + Fr.bodyLen (l.drop o)) 0).toNat = e7 at *
  have HTW := Lib.hid (fun wx => two_any e6 e7 (by omega) (by omega) wx)
  have hs2 : 6 + (Fr.bodyLen (l.drop o) : Int) + 2 ≤ ((l.length - o : Nat) : Int) := by omega
  have hm := Crc.sum_lt (((l.drop o).drop 1).take (5 + Fr.bodyLen (l.drop o)))
  clear hcp hlp HS1 HK1 HCV
  generalize Crc.sum (((l.drop o).drop 1).take (5 + Fr.bodyLen (l.drop o))) = sm at *
  have hne : (((e6 : Int) * 256 + (e7 : Int)) != (sm : Int)) = false := by simp; omega
  have hc2 : ((l.length - o : Nat) : Int) ≤ (c : Int) := by omega
  have hlo : l.length - o ≤ 20000 := by omega
  have HON : Hid (o + (l.length - o) = l.length) := by show _ = _; omega
  generalize l.length - o = N at *
  generalize hnn : Fr.bodyLen (l.drop o) = n at *
  have HNN := Lib.hid hnn
  clear hnn
  have y6 : W2.cell? ⟨g, o + (6 + n), none⟩ = some (.int .u8 (e6 : Int)) := x6
  have y7 : W2.cell? ⟨g, o + (6 + n + 1), none⟩ = some (.int .u8 (e7 : Int)) := by rw [show 6 + n + 1 = 7 + n by omega]; exact x7
  clear x6 x7
  go_wp2_with fail
  go_quiet ((first | (go_at_call 112; exact Calls.quiet_of_same (HTW.out _)) | (go_at_call 109; exact Calls.quiet_of_same (HSM.out _ _))))
  have HW64 : Hid (wrap64 ((o : Int) + (6 + (n : Int) + 2)) = (o : Int) + (6 + (n : Int) + 2)) := by show _ = _; have := HON.out; unfold wrap64; omega
  have hF := Lib.hid (frame_cells (W := W2.drewN nq) (F := F) (p := p) (U := w.heap.size) n6 n1 c0 c1 c2 c3 (.string ⟨(Fr.body (l.drop o)).toArray⟩) (.int .i64 ((o : Int) + (6 + (n : Int) + 2))) (.int .i64 (Fr.at8 (l.drop o) 1)) (.int .i64 (Fr.at8 (l.drop o) 2)) (.int .i64 (Fr.seq (l.drop o))) (.string ⟨(Fr.body (l.drop o)).toArray⟩))
  go_wp2_with fail
  rw [HW64.out]
  refine bodyPost_ret (v := .tuple #[.agg #[.int .i64 (Fr.at8 (l.drop o) 1), .int .i64 (Fr.at8 (l.drop o) 2), .int .i64 (Fr.seq (l.drop o)), .string ⟨(Fr.body (l.drop o)).toArray⟩], .nilIface]) (by
    obtain ⟨x0, x1, x2, x3⟩ := hF.out
    simp only [results, Tryz.results105]
    simp [go_sem, x0, x1, x2, x3]) rfl ⟨rfl, ?_⟩
  rw [HNN.out]
  exact frame_end (HS2.out.below (below_drewN (Below.refl _ _) nq)) (below_drewN HB.out nq) hpw (HGF.out o (by have := HON.out; omega)) (by omega) (by have := HON.out; omega) _ (by omega) _ _ _ _ _
end Go.Proofs.YtdlojhncbgfjbaaGreatDoor
