/-
  The contract of the program's reading of one frame by a scanner.
-/
import Derived.Test.YtdlojhncbgfjbaaGreatDoorFrI4
namespace Go.Proofs.YtdlojhncbgfjbaaGreatDoor
open Go.RowKit Go.Deep

theorem kept4x {w w1 : World} (hb : Below (w.heap.size + 1) (w.alloc frO) w1) :
    ((∀ ob, (w1.alloc ob).cell? ⟨w.heap.size, 0, none⟩ = some (.int .i64 0)) ∧ (∀ ob, (w1.alloc ob).cell? ⟨w.heap.size, 1, none⟩ = some (.int .i64 0)) ∧ (∀ ob, (w1.alloc ob).cell? ⟨w.heap.size, 2, none⟩ = some (.int .i64 0)) ∧ (∀ ob, (w1.alloc ob).cell? ⟨w.heap.size, 3, none⟩ = some (.string ⟨#[]⟩))) ∧ ((∀ ob, (w1.alloc ob).frozen? ⟨w.heap.size, 0, none⟩ = false) ∧ (∀ ob, (w1.alloc ob).frozen? ⟨w.heap.size, 1, none⟩ = false) ∧ (∀ ob, (w1.alloc ob).frozen? ⟨w.heap.size, 2, none⟩ = false) ∧ (∀ ob, (w1.alloc ob).frozen? ⟨w.heap.size, 3, none⟩ = false)) ∧ w.heap.size < w1.heap.size ∧ Hid (Below w.heap.size w w1) := by
  have hz : w.heap.size + 1 ≤ w1.heap.size := by have := hb.size; simpa using this
  have K := fun ob => kept4 (hb.alloc hz ob)
  exact ⟨⟨fun ob => (K ob).1.1, fun ob => (K ob).1.2.1, fun ob => (K ob).1.2.2.1, fun ob => (K ob).1.2.2.2⟩, ⟨fun ob => (K ob).2.1.1, fun ob => (K ob).2.1.2.1, fun ob => (K ob).2.1.2.2.1, fun ob => (K ob).2.1.2.2.2⟩, hz, (kept4 hb).2.2.2⟩

theorem fin4 {w w1 : World} {a b c d : Value} (c0 : w1.cell? ⟨w.heap.size, 0, none⟩ = some a) (c1 : w1.cell? ⟨w.heap.size, 1, none⟩ = some b) (c2 : w1.cell? ⟨w.heap.size, 2, none⟩ = some c) (c3 : w1.cell? ⟨w.heap.size, 3, none⟩ = some d) (ob : Obj) (x y z q : Value) :
    (((((w1.setCell ⟨w.heap.size, 0, none⟩ x).setCell ⟨w.heap.size, 1, none⟩ y).setCell ⟨w.heap.size, 2, none⟩ z).setCell ⟨w.heap.size, 3, none⟩ q).alloc ob).cell? ⟨w.heap.size, 0, none⟩ = some x ∧ (((((w1.setCell ⟨w.heap.size, 0, none⟩ x).setCell ⟨w.heap.size, 1, none⟩ y).setCell ⟨w.heap.size, 2, none⟩ z).setCell ⟨w.heap.size, 3, none⟩ q).alloc ob).cell? ⟨w.heap.size, 1, none⟩ = some y ∧ (((((w1.setCell ⟨w.heap.size, 0, none⟩ x).setCell ⟨w.heap.size, 1, none⟩ y).setCell ⟨w.heap.size, 2, none⟩ z).setCell ⟨w.heap.size, 3, none⟩ q).alloc ob).cell? ⟨w.heap.size, 2, none⟩ = some z ∧ (((((w1.setCell ⟨w.heap.size, 0, none⟩ x).setCell ⟨w.heap.size, 1, none⟩ y).setCell ⟨w.heap.size, 2, none⟩ z).setCell ⟨w.heap.size, 3, none⟩ q).alloc ob).cell? ⟨w.heap.size, 3, none⟩ = some q := by
  have h0 : ((((w1.setCell ⟨w.heap.size, 0, none⟩ x).setCell ⟨w.heap.size, 1, none⟩ y).setCell ⟨w.heap.size, 2, none⟩ z).setCell ⟨w.heap.size, 3, none⟩ q).cell? ⟨w.heap.size, 0, none⟩ = some x := by
    rw [World.cell?_setCell_other _ _ _ _ (by simp), World.cell?_setCell_other _ _ _ _ (by simp), World.cell?_setCell_other _ _ _ _ (by simp)]; exact World.cell?_setCell_same _ _ _ c0
  have h1 : ((((w1.setCell ⟨w.heap.size, 0, none⟩ x).setCell ⟨w.heap.size, 1, none⟩ y).setCell ⟨w.heap.size, 2, none⟩ z).setCell ⟨w.heap.size, 3, none⟩ q).cell? ⟨w.heap.size, 1, none⟩ = some y := by
    rw [World.cell?_setCell_other _ _ _ _ (by simp), World.cell?_setCell_other _ _ _ _ (by simp)]; exact World.cell?_setCell_same _ _ _ (((World.cell?_setCell_other _ _ _ _ (by simp)).trans c1))
  have h2 : ((((w1.setCell ⟨w.heap.size, 0, none⟩ x).setCell ⟨w.heap.size, 1, none⟩ y).setCell ⟨w.heap.size, 2, none⟩ z).setCell ⟨w.heap.size, 3, none⟩ q).cell? ⟨w.heap.size, 2, none⟩ = some z := by
    rw [World.cell?_setCell_other _ _ _ _ (by simp)]; exact World.cell?_setCell_same _ _ _ ((World.cell?_setCell_other _ _ _ _ (by simp)).trans ((World.cell?_setCell_other _ _ _ _ (by simp)).trans c2))
  have h3 : ((((w1.setCell ⟨w.heap.size, 0, none⟩ x).setCell ⟨w.heap.size, 1, none⟩ y).setCell ⟨w.heap.size, 2, none⟩ z).setCell ⟨w.heap.size, 3, none⟩ q).cell? ⟨w.heap.size, 3, none⟩ = some q := World.cell?_setCell_same _ _ _ ((World.cell?_setCell_other _ _ _ _ (by simp)).trans ((World.cell?_setCell_other _ _ _ _ (by simp)).trans ((World.cell?_setCell_other _ _ _ _ (by simp)).trans c3)))
  have hl := World.block_lt_of_cell? _ _ h0
  exact ⟨(World.cell?_alloc_lt _ _ ⟨w.heap.size, 0, none⟩ hl).trans h0, (World.cell?_alloc_lt _ _ ⟨w.heap.size, 1, none⟩ hl).trans h1, (World.cell?_alloc_lt _ _ ⟨w.heap.size, 2, none⟩ hl).trans h2, (World.cell?_alloc_lt _ _ ⟨w.heap.size, 3, none⟩ hl).trans h3⟩

set_option maxRecDepth 100000 in
set_option maxHeartbeats 1000000 in
theorem frame_bad (B p g cap i : Nat) (l : List UInt8) (s : ByteArray) (c : Int) (w : World) (h : Scn B p g cap l i w)
    (hh : ∀ wx, Scn B p g cap l i wx → Calls Tryz.prog 111 #[.pointer (some ⟨p, 0, none⟩)] wx fun e w' => e = .returned (.tuple #[.agg #[.int .i64 0, .int .i64 0, .int .i64 0, .string ⟨#[]⟩], .int .i64 0, errV s c]) ∧ Below wx.heap.size wx w') :
    Calls Tryz.prog 105 #[.pointer (some ⟨p, 0, none⟩)] w fun e w' => e = .returned (.tuple #[frZ, errV s c]) ∧ Below w.heap.size w w' := by
  have HS := Lib.hid h
  have HH := Lib.hid hh
  clear h hh
  go_enter Tryz.func105, Tryz.ntmps105
  go_wp2_with fail
  refine (HH.out _ (HS.out.below ((Below.refl _ _).alloc (Nat.le_refl _) _))).mono ?_
  rintro e w1 ⟨rfl, hb⟩
  obtain ⟨⟨c0, c1, c2, c3⟩, ⟨f0, f1, f2, f3⟩, hz, HB⟩ := kept4 (hb.mono (by simp))
  have hz0 : w.heap.size ≤ w1.heap.size := by omega
  clear hb HH HS
  go_wp2_with fail
  have hF := Lib.hid (fin4 c0 c1 c2 c3 (.cells #[.int .i64 0, .int .i64 0, .int .i64 0, .string ⟨#[]⟩] 70) (.int .i64 0) (.int .i64 0) (.int .i64 0) (.string ⟨#[]⟩))
  exact bodyPost_ret (v := .tuple #[.agg #[.int .i64 0, .int .i64 0, .int .i64 0, .string ⟨#[]⟩], errV s c]) (by
    obtain ⟨x0, x1, x2, x3⟩ := hF.out
    simp only [results, Tryz.results105]
    simp [go_sem, x0, x1, x2, x3]) rfl ⟨rfl, (below_set4 HB.out (Nat.le_refl _) _ _ _ _).alloc (by simp; omega) _⟩

set_option maxRecDepth 100000 in
set_option maxHeartbeats 2000000 in
theorem frame_short (B p g cap i : Nat) (l : List UInt8) (w : World) (h : Scn B p g cap l i w) (h0 : Fr.at8 (l.drop i) 0 = 126) (hl6 : 6 ≤ l.length - i) (hbad : headBad (l.drop i) = false) (hs : l.length - i < 8 + Fr.bodyLen (l.drop i)) :
    Calls Tryz.prog 105 #[.pointer (some ⟨p, 0, none⟩)] w fun e w' => e = .returned (.tuple #[frZ, errV ⟨#[97, 32, 102, 114, 97, 109, 101, 39, 115, 32, 98, 111, 100, 121]⟩ 6]) ∧ Below w.heap.size w w' := by
  have HS := Lib.hid h
  have hn64 : Fr.bodyLen (l.drop i) ≤ 64 := by
    rcases Nat.lt_or_ge 64 (Fr.bodyLen (l.drop i)) with k | k
    · have := (headBad_iff (l.drop i)).2 (Or.inr k); rw [hbad] at this; cases this
    · exact k
  have HH := Lib.hid (fun wx (hx : Scn B p g cap l i wx) => head_long B p g cap i l wx hx h0 hl6)
  have HBD := Lib.hid hbad
  clear h h0 hbad
  go_enter Tryz.func105, Tryz.ntmps105
  go_wp2_with fail
  refine (HH.out _ (HS.out.below ((Below.refl _ _).alloc (Nat.le_refl _) _))).mono ?_
  rintro e w1 ⟨⟨v, rfl, hv⟩, hb⟩
  obtain rfl := hv.2 HBD.out
  have HS1 : Hid (Scn B p g cap l i w1) := HS.out.below (((Below.refl _ _).alloc (Nat.le_refl _) _).trans (hb.mono (by simp)))
  have HK1 : Hid (Below (w.heap.size + 1) (w.alloc frO) w1) := hb.mono (by simp)
  have hz1 : w.heap.size + 1 ≤ w1.heap.size := by have := HK1.out.size; simpa using this
  clear hb HH HS hv
  go_wp2_with fail
  refine (rest_any _ _ _ _ _ _ _ (HS1.out.below ((Below.refl _ _).alloc (Nat.le_refl _) _))).mono ?_
  rintro e w2 ⟨⟨o, c, rfl, hc, ho⟩, m, rfl⟩
  obtain rfl := ho (by omega)
  obtain ⟨⟨c0, c1, c2, c3⟩, ⟨f0, f1, f2, f3⟩, hz, HB⟩ := kept4 (below_drewN (HK1.out.alloc hz1 (.cells #[.int .i64 (Fr.at8 (l.drop o) 1), .int .i64 (Fr.at8 (l.drop o) 2), .int .i64 (Fr.seq (l.drop o)), .string ⟨#[]⟩] 70)) m)
  generalize (w1.alloc (.cells #[.int .i64 (Fr.at8 (l.drop o) 1), .int .i64 (Fr.at8 (l.drop o) 2), .int .i64 (Fr.seq (l.drop o)), .string ⟨#[]⟩] 70)).drewN m = W2 at *
  have hs2 : ((l.length - o : Nat) : Int) < 6 + (Fr.bodyLen (l.drop o) : Int) + 2 := by omega
  generalize l.length - o = N at *
  generalize Fr.bodyLen (l.drop o) = n at *
  clear HS1 HK1
  go_wp2_with fail
  exact bodyPost_ret (v := .tuple #[.agg #[.int .i64 0, .int .i64 0, .int .i64 0, .string ⟨#[]⟩], errV ⟨#[97, 32, 102, 114, 97, 109, 101, 39, 115, 32, 98, 111, 100, 121]⟩ 6]) (by simp [results, Tryz.results105, go_sem, c0, c1, c2, c3]) rfl ⟨rfl, below_set4 HB.out (Nat.le_refl _) _ _ _ _⟩

/-- The bytes of what is left, one behind the other. -/
theorem Scn.part {B p g cap i : Nat} {l : List UInt8} {W : World} (h : Scn B p g cap l i W) (a n : Nat) (hn : i + a + n ≤ l.length) : (((l.drop i).drop a).take n).length = n ∧ ∀ j (hj : j < (((l.drop i).drop a).take n).length), W.cell? ⟨g, i + a + j, none⟩ = some (.int .u8 (((l.drop i).drop a).take n)[j].toNat) := by
  have hlen : (((l.drop i).drop a).take n).length = n := by simp; omega
  refine ⟨hlen, fun j hj => ?_⟩
  rw [h.2.2.2.2.2.2.2 (i + a + j) (by omega)]
  simp

set_option maxRecDepth 100000 in
set_option maxHeartbeats 4000000 in
theorem frame_long (B p g cap i : Nat) (l : List UInt8) (w : World) (h : Scn B p g cap l i w) (h0 : Fr.at8 (l.drop i) 0 = 126) (hl6 : 6 ≤ l.length - i) (hbad : headBad (l.drop i) = false) (hs : 8 + Fr.bodyLen (l.drop i) ≤ l.length - i) (hsum : Crc.sum (((l.drop i).drop 1).take (5 + Fr.bodyLen (l.drop i))) ≠ ((l.drop i).getD (6 + Fr.bodyLen (l.drop i)) 0).toNat * 256 + ((l.drop i).getD (7 + Fr.bodyLen (l.drop i)) 0).toNat) :
    Calls Tryz.prog 105 #[.pointer (some ⟨p, 0, none⟩)] w fun e w' => e = .returned (.tuple #[frZ, errV ⟨#[97, 32, 102, 114, 97, 109, 101, 39, 115, 32, 115, 117, 109]⟩ 7]) ∧ Below w.heap.size w w' := by
  have HS := Lib.hid h
  have hn64 : Fr.bodyLen (l.drop i) ≤ 64 := by
    rcases Nat.lt_or_ge 64 (Fr.bodyLen (l.drop i)) with k | k
    · have := (headBad_iff (l.drop i)).2 (Or.inr k); rw [hbad] at this; cases this
    · exact k
  have hl20 : l.length ≤ 20000 := h.2.2.2.2.2.1
  have HH := Lib.hid (fun wx (hx : Scn B p g cap l i wx) => head_long B p g cap i l wx hx h0 hl6)
  have HBD := Lib.hid hbad
  clear h h0 hbad
  go_enter Tryz.func105, Tryz.ntmps105
  go_wp2_with fail
  refine (HH.out _ (HS.out.below ((Below.refl _ _).alloc (Nat.le_refl _) _))).mono ?_
  rintro e w1 ⟨⟨v, rfl, hv⟩, hb⟩
  obtain rfl := hv.2 HBD.out
  have HS1 : Hid (Scn B p g cap l i w1) := HS.out.below (((Below.refl _ _).alloc (Nat.le_refl _) _).trans (hb.mono (by simp)))
  have HK1 : Hid (Below (w.heap.size + 1) (w.alloc frO) w1) := hb.mono (by simp)
  have hz1 : w.heap.size + 1 ≤ w1.heap.size := by have := HK1.out.size; simpa using this
  clear hb HH HS hv
  go_wp2_with fail
  refine (rest_any _ _ _ _ _ _ _ (HS1.out.below ((Below.refl _ _).alloc (Nat.le_refl _) _))).mono ?_
  rintro e w2 ⟨⟨o, c, rfl, hc, ho⟩, m, rfl⟩
  obtain rfl := ho (by omega)
  have HS2 : Hid (Scn B p g cap l o ((w1.alloc (.cells #[.int .i64 (Fr.at8 (l.drop o) 1), .int .i64 (Fr.at8 (l.drop o) 2), .int .i64 (Fr.seq (l.drop o)), .string ⟨#[]⟩] 70)).drewN m)) := HS1.out.below (below_drewN ((Below.refl _ _).alloc (Nat.le_refl _) _) m)
  obtain ⟨⟨c0, c1, c2, c3⟩, ⟨f0, f1, f2, f3⟩, hz, HB⟩ := kept4 (below_drewN (HK1.out.alloc hz1 (.cells #[.int .i64 (Fr.at8 (l.drop o) 1), .int .i64 (Fr.at8 (l.drop o) 2), .int .i64 (Fr.seq (l.drop o)), .string ⟨#[]⟩] 70)) m)
  generalize (w1.alloc (.cells #[.int .i64 (Fr.at8 (l.drop o) 1), .int .i64 (Fr.at8 (l.drop o) 2), .int .i64 (Fr.seq (l.drop o)), .string ⟨#[]⟩] 70)).drewN m = W2 at *
  have x6 := HS2.out.at (6 + Fr.bodyLen (l.drop o)) (by omega)
  have x7 := HS2.out.at (7 + Fr.bodyLen (l.drop o)) (by omega)
  obtain ⟨hlp, hcp⟩ := HS2.out.part 1 (5 + Fr.bodyLen (l.drop o)) (by omega)
  have HSM : Hid (∀ k c, Calls Tryz.prog 109 #[.slice (some ⟨g, o + 1, none⟩) (5 + Fr.bodyLen (l.drop o)) c] (W2.drewN k) fun e w' => e = .returned (.int .u32 (Crc.sum (((l.drop o).drop 1).take (5 + Fr.bodyLen (l.drop o))) : Int)) ∧ w' = W2.drewN k) := fun k c => by
    have := sumBytes_any (((l.drop o).drop 1).take (5 + Fr.bodyLen (l.drop o))) (some ⟨g, o + 1, none⟩) g (o + 1) c (by rw [hlp]; omega) (W2.drewN k) (fun _ => rfl) hcp
    rw [hlp] at this
    exact this
  unfold Fr.at8 at x6 x7
  have d6 := ((l.drop o).getD (6 + Fr.bodyLen (l.drop o)) 0).toNat_lt
  have d7 := ((l.drop o).getD (7 + Fr.bodyLen (l.drop o)) 0).toNat_lt
  generalize ((l.drop o).getD (6 + Fr.bodyLen (l.drop o)) 0).toNat = e6 at *
  generalize ((l.drop o).getD (7 + Fr.bodyLen (l.drop o)) 0).toNat = e7 at *
  have HTW := Lib.hid (fun wx => two_any e6 e7 (by omega) (by omega) wx)
  have hs2 : 6 + (Fr.bodyLen (l.drop o) : Int) + 2 ≤ ((l.length - o : Nat) : Int) := by omega
  have hm := Crc.sum_lt (((l.drop o).drop 1).take (5 + Fr.bodyLen (l.drop o)))
  clear hcp hlp HS1 HK1 HS2
  generalize Crc.sum (((l.drop o).drop 1).take (5 + Fr.bodyLen (l.drop o))) = sm at *
  have hne : (((e6 : Int) * 256 + (e7 : Int)) != (sm : Int)) = true := by simp; omega
  have hc2 : ((l.length - o : Nat) : Int) ≤ (c : Int) := by omega
  have hlo : l.length - o ≤ 20000 := by omega
  generalize l.length - o = N at *
  generalize Fr.bodyLen (l.drop o) = n at *
  have y6 : W2.cell? ⟨g, o + (6 + n), none⟩ = some (.int .u8 (e6 : Int)) := x6
  have y7 : W2.cell? ⟨g, o + (6 + n + 1), none⟩ = some (.int .u8 (e7 : Int)) := by rw [show 6 + n + 1 = 7 + n by omega]; exact x7
  clear x6 x7
  go_wp2_with fail
  go_quiet ((first | (go_at_call 112; exact Calls.quiet_of_same (HTW.out _)) | (go_at_call 109; exact Calls.quiet_of_same (HSM.out _ _))))
  go_wp2_with fail
  exact bodyPost_ret (v := .tuple #[.agg #[.int .i64 0, .int .i64 0, .int .i64 0, .string ⟨#[]⟩], errV ⟨#[97, 32, 102, 114, 97, 109, 101, 39, 115, 32, 115, 117, 109]⟩ 7]) (by simp [results, Tryz.results105, go_sem, c0, c1, c2, c3]) rfl ⟨rfl, below_set4 (below_drewN HB.out nq) (Nat.le_refl _) _ _ _ _⟩
end Go.Proofs.YtdlojhncbgfjbaaGreatDoor
