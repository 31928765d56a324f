/-
  The contract of the program's head of a frame that has its six bytes.
-/
import Derived.Test.YtdlojhncbgfjbaaGreatDoorFrI3
import Derived.BigRegion
import Derived.Deep.RegionWith
namespace Go.Proofs.YtdlojhncbgfjbaaGreatDoor
open Go.RowKit Go.Deep

/-- A head that may not be. -/
def headBad (r : List UInt8) : Bool := decide (Fr.rightB (Fr.at8 r 1) (Fr.at8 r 2) (Fr.seq r) 0 = false ∨ 64 < Fr.bodyLen r)
theorem headBad_iff (r : List UInt8) : headBad r = true ↔ (Fr.rightB (Fr.at8 r 1) (Fr.at8 r 2) (Fr.seq r) 0 = false ∨ 64 < Fr.bodyLen r) := by unfold headBad; exact decide_eq_true_iff
/-- What the head of a text of at least six bytes is told as. -/
def HeadAns (r : List UInt8) (v : Value) : Prop :=
  (headBad r = true → v = .tuple #[.agg #[.int .i64 0, .int .i64 0, .int .i64 0, .string ⟨#[]⟩], .int .i64 0, errV ⟨#[97, 32, 102, 114, 97, 109, 101, 39, 115, 32, 104, 101, 97, 100]⟩ 1]) ∧
  (headBad r = false → v = .tuple #[.agg #[.int .i64 (Fr.at8 r 1), .int .i64 (Fr.at8 r 2), .int .i64 (Fr.seq r), .string ⟨#[]⟩], .int .i64 (Fr.bodyLen r), .nilIface])
theorem take_two {P : Program} {ops : Array Oper} {Q : Exit → Act → World → Prop} {md : Region.Mode} {S : World → Prop} {i j : Nat} {oi oj : Oper} {ri rj : List Oper} {fuel : Nat} {listed : Array Bool} {a : Act} {w : World} (hi : ops.toList.drop i = oi :: ri) (hj : ops.toList.drop j = oj :: rj) (hr : Region.ready md ops listed = [i, j])
    (h : ∀ K' : Act → World → Prop, Shut (∀ a w, S w → (S w → wpAnyH P md ops Q S fuel (listed.setIfInBounds i true) a w) → K' a w) → if Region.wanted oi (yielded ops a.tmps) = true then Oper.wp P oi a w K' Q else K' (a.put oi.dst undef) w)
    (h2 : ∀ K' : Act → World → Prop, Shut (∀ a w, S w → (S w → wpAnyH P md ops Q S fuel (listed.setIfInBounds j true) a w) → K' a w) → if Region.wanted oj (yielded ops a.tmps) = true then Oper.wp P oj a w K' Q else K' (a.put oj.dst undef) w) :
    wpAnyH P md ops Q S (fuel + 1) listed a w :=
  wpAnyH_ready hr (by simp) (AllReadyH.cons (at_drop hi) h (AllReadyH.cons (at_drop hj) h2 AllReadyH.nil))

/-- The six bytes of a head in their own block. -/
def Arr5 (H : Nat) (b1 b2 b5 : Int) (d3 d4 : Nat) (w' : World) : Prop := w'.cell? ⟨H, 1, none⟩ = some (.int .u8 b1) ∧ w'.cell? ⟨H, 2, none⟩ = some (.int .u8 b2) ∧ w'.cell? ⟨H, 3, none⟩ = some (.int .u8 (d3 : Int)) ∧ w'.cell? ⟨H, 4, none⟩ = some (.int .u8 (d4 : Int)) ∧ w'.cell? ⟨H, 5, none⟩ = some (.int .u8 b5)
theorem Arr5.alloc {H : Nat} {b1 b2 b5 : Int} {d3 d4 : Nat} {w' : World} (h : Arr5 H b1 b2 b5 d3 d4 w') (ob : Obj) : Arr5 H b1 b2 b5 d3 d4 (w'.alloc ob) := by
  obtain ⟨y1, y2, y3, y4, y5⟩ := h
  have hl := World.block_lt_of_cell? _ _ y1
  exact ⟨(World.cell?_alloc_lt _ _ ⟨H, 1, none⟩ hl).trans y1, (World.cell?_alloc_lt _ _ ⟨H, 2, none⟩ hl).trans y2, (World.cell?_alloc_lt _ _ ⟨H, 3, none⟩ hl).trans y3, (World.cell?_alloc_lt _ _ ⟨H, 4, none⟩ hl).trans y4, (World.cell?_alloc_lt _ _ ⟨H, 5, none⟩ hl).trans y5⟩

theorem array_six (a : Addr) (c : Nat) (w : World) : (Instr.arrayAt 197 (.slice (some a) 6 c)).run Tryz.prog w = .ok (.pointer (some a)) w := by
  simp [Instr.arrayAt, run_underlying Tryz.underlying197, Result.andThen]

set_option maxRecDepth 100000 in
set_option maxHeartbeats 2000000 in
theorem head_long (B p g cap i : Nat) (l : List UInt8) (w : World) (h : Scn B p g cap l i w) (h0 : Fr.at8 (l.drop i) 0 = 126) (hl6 : 6 ≤ l.length - i) :
    Calls Tryz.prog 111 #[.pointer (some ⟨p, 0, none⟩)] w fun e w' => (∃ v, e = .returned v ∧ HeadAns (l.drop i) v) ∧ Below w.heap.size w w' := by
  have HS := Lib.hid h
  clear h
  go_enter Tryz.func111, Tryz.ntmps111
  go_wp2_with fail
  refine (rest_any _ _ _ _ _ _ _ (HS.out.below ((Below.refl _ _).alloc (Nat.le_refl _) _))).mono ?_
  rintro e w1 ⟨⟨o, c, rfl, hc, ho⟩, m, rfl⟩
  obtain ⟨hk, hS⟩ := head_in (m := m) HS.out
  obtain ⟨⟨c0, c1, c2, c3⟩, ⟨f0, f1, f2, f3⟩, hz, HB⟩ := kept4 hk
  have HK0 := Lib.hid hk
  clear hk HS
  have HS := Lib.hid hS
  clear hS
  have hKz := HK0.out.size
  simp only [World.size_alloc] at hKz
  generalize (w.alloc frO).drewN m = W at *
  obtain rfl := ho (by omega)
  have x0 := HS.out.at 0 (by omega)
  rw [Nat.add_zero, h0] at x0
  have x1 := HS.out.at 1 (by omega)
  have x2 := HS.out.at 2 (by omega)
  have x3 := HS.out.at 3 (by omega)
  have x4 := HS.out.at 4 (by omega)
  have x5 := HS.out.at 5 (by omega)
  have r1 := Fr.at8_range (l.drop o) 1
  have r2 := Fr.at8_range (l.drop o) 2
  have r3 := Fr.at8_range (l.drop o) 3
  have r4 := Fr.at8_range (l.drop o) 4
  have r5 := Fr.at8_range (l.drop o) 5
  have hgl : g < W.heap.size := World.block_lt_of_cell? _ _ x0
  have hpos : 6 ≤ l.length - o := by omega
  have hpos2 : (6 : Int) ≤ ((l.length - o : Nat) : Int) := by omega
  have hpos3 : (6 : Int) ≤ (c : Int) := by omega
  have hpos4 : (((l.length - o : Nat) : Int) == 0) = false := by simp; omega
  clear h0
  generalize l.length - o = N at *
  have hq : Fr.seq (l.drop o) = Fr.at8 (l.drop o) 3 * 256 + Fr.at8 (l.drop o) 4 := rfl
  have hbl : ((Fr.bodyLen (l.drop o) : Nat) : Int) = Fr.at8 (l.drop o) 5 := rfl
  have hBad := Lib.hid (headBad_iff (l.drop o))
  have HQ := Lib.hid hq
  have HL := Lib.hid hbl
  clear hq hbl
  have harr := array_six ⟨g, o, none⟩ c
  go_wp2_with fail
  have y1 : (W.alloc (.cells #[.int .u8 126, .int .u8 (Fr.at8 (l.drop o) 1), .int .u8 (Fr.at8 (l.drop o) 2), .int .u8 (Fr.at8 (l.drop o) 3), .int .u8 (Fr.at8 (l.drop o) 4), .int .u8 (Fr.at8 (l.drop o) 5)] 197)).cell? ⟨W.heap.size, 1, none⟩ = some (.int .u8 (Fr.at8 (l.drop o) 1)) := by simp
  have y2 : (W.alloc (.cells #[.int .u8 126, .int .u8 (Fr.at8 (l.drop o) 1), .int .u8 (Fr.at8 (l.drop o) 2), .int .u8 (Fr.at8 (l.drop o) 3), .int .u8 (Fr.at8 (l.drop o) 4), .int .u8 (Fr.at8 (l.drop o) 5)] 197)).cell? ⟨W.heap.size, 2, none⟩ = some (.int .u8 (Fr.at8 (l.drop o) 2)) := by simp
  have y3 : (W.alloc (.cells #[.int .u8 126, .int .u8 (Fr.at8 (l.drop o) 1), .int .u8 (Fr.at8 (l.drop o) 2), .int .u8 (Fr.at8 (l.drop o) 3), .int .u8 (Fr.at8 (l.drop o) 4), .int .u8 (Fr.at8 (l.drop o) 5)] 197)).cell? ⟨W.heap.size, 3, none⟩ = some (.int .u8 (Fr.at8 (l.drop o) 3)) := by simp
  have y4 : (W.alloc (.cells #[.int .u8 126, .int .u8 (Fr.at8 (l.drop o) 1), .int .u8 (Fr.at8 (l.drop o) 2), .int .u8 (Fr.at8 (l.drop o) 3), .int .u8 (Fr.at8 (l.drop o) 4), .int .u8 (Fr.at8 (l.drop o) 5)] 197)).cell? ⟨W.heap.size, 4, none⟩ = some (.int .u8 (Fr.at8 (l.drop o) 4)) := by simp
  have y5 : (W.alloc (.cells #[.int .u8 126, .int .u8 (Fr.at8 (l.drop o) 1), .int .u8 (Fr.at8 (l.drop o) 2), .int .u8 (Fr.at8 (l.drop o) 3), .int .u8 (Fr.at8 (l.drop o) 4), .int .u8 (Fr.at8 (l.drop o) 5)] 197)).cell? ⟨W.heap.size, 5, none⟩ = some (.int .u8 (Fr.at8 (l.drop o) 5)) := by simp
  have HK : Hid (Below (w.heap.size + 1) (w.alloc frO) (W.alloc (.cells #[.int .u8 126, .int .u8 (Fr.at8 (l.drop o) 1), .int .u8 (Fr.at8 (l.drop o) 2), .int .u8 (Fr.at8 (l.drop o) 3), .int .u8 (Fr.at8 (l.drop o) 4), .int .u8 (Fr.at8 (l.drop o) 5)] 197))) := HK0.out.alloc (by omega) _
  have hlt2 : W.heap.size < (W.alloc (.cells #[.int .u8 126, .int .u8 (Fr.at8 (l.drop o) 1), .int .u8 (Fr.at8 (l.drop o) 2), .int .u8 (Fr.at8 (l.drop o) 3), .int .u8 (Fr.at8 (l.drop o) 4), .int .u8 (Fr.at8 (l.drop o) 5)] 197)).heap.size := by simp
  generalize W.alloc (.cells #[.int .u8 126, .int .u8 (Fr.at8 (l.drop o) 1), .int .u8 (Fr.at8 (l.drop o) 2), .int .u8 (Fr.at8 (l.drop o) 3), .int .u8 (Fr.at8 (l.drop o) 4), .int .u8 (Fr.at8 (l.drop o) 5)] 197) = V at *
  generalize W.heap.size = H at *
  clear x0 x1 x2 x3 x4 x5 c0 c1 c2 c3 f0 f1 f2 f3 HS HK0 HB harr
  generalize hBB : headBad (l.drop o) = Bad at *
  generalize hb1 : Fr.at8 (l.drop o) 1 = b1 at *
  generalize hb2 : Fr.at8 (l.drop o) 2 = b2 at *
  generalize Fr.at8 (l.drop o) 3 = b3 at *
  generalize Fr.at8 (l.drop o) 4 = b4 at *
  generalize Fr.at8 (l.drop o) 5 = b5 at *
  generalize hqq : Fr.seq (l.drop o) = q at *
  generalize hnn : Fr.bodyLen (l.drop o) = n at *
  obtain ⟨d3, rfl⟩ : ∃ d : Nat, b3 = d := ⟨b3.toNat, by omega⟩
  obtain ⟨d4, rfl⟩ : ∃ d : Nat, b4 = d := ⟨b4.toNat, by omega⟩
  have HTW := Lib.hid (fun wx => two_any d3 d4 (by omega) (by omega) wx)
  have hw1 : IntKind.i64.wrap b1 = b1 := by simp [IntKind.wrap, IntKind.bits, IntKind.signed]; omega
  have hw2 : IntKind.i64.wrap b2 = b2 := by simp [IntKind.wrap, IntKind.bits, IntKind.signed]; omega
  have hw5 : IntKind.i64.wrap b5 = b5 := by simp [IntKind.wrap, IntKind.bits, IntKind.signed]; omega
  have hw3 : IntKind.i64.wrap ((d3 : Int) * 256 + (d4 : Int)) = (d3 : Int) * 256 + (d4 : Int) := by simp [IntKind.wrap, IntKind.bits, IntKind.signed]; omega
  have EE : Hid (headBad (l.drop o) = Bad ∧ Fr.at8 (l.drop o) 1 = b1 ∧ Fr.at8 (l.drop o) 2 = b2 ∧ Fr.seq (l.drop o) = q ∧ Fr.bodyLen (l.drop o) = n) := ⟨hBB, hb1, hb2, hqq, hnn⟩
  clear hBB hb1 hb2 hqq hnn
  refine wp_region_held_drew (S := Arr5 H b1 b2 b5 d3 d4) (by kernel_rfl) ⟨y1, y2, y3, y4, y5⟩ (fun hHeld => ?_)
  have hHeld0 := hHeld
  refine take_do (i := 0) (v := .pointer (some ⟨H, 1, none⟩)) rfl (by kernel_rfl) (by kernel_rfl) (by kernel_rfl) (fun _ _ _ h => h) (by rfl) ?_ (by assumption) ?_
  · intro wx hSw
    obtain ⟨y1, y2, y3, y4, y5⟩ := hSw
    go_simp
  simp only [Act.put, List.setIfInBounds_toArray, List.set_cons_zero, List.set_cons_succ]
  refine take_do (i := 1) (v := .int .u8 b1) rfl (by kernel_rfl) (by kernel_rfl) (by kernel_rfl) (fun _ _ _ h => h) (by rfl) ?_ (by assumption) ?_
  · intro wx hSw
    obtain ⟨y1, y2, y3, y4, y5⟩ := hSw
    go_simp
  simp only [Act.put, List.setIfInBounds_toArray, List.set_cons_zero, List.set_cons_succ]
  refine take_do (i := 2) (v := .int .i64 b1) rfl (by kernel_rfl) (by kernel_rfl) (by kernel_rfl) (fun _ _ _ h => h) (by rfl) ?_ (by assumption) ?_
  · intro wx hSw
    obtain ⟨y1, y2, y3, y4, y5⟩ := hSw
    go_simp
  simp only [Act.put, List.setIfInBounds_toArray, List.set_cons_zero, List.set_cons_succ]
  refine take_do (i := 3) (v := .pointer (some ⟨H, 2, none⟩)) rfl (by kernel_rfl) (by kernel_rfl) (by kernel_rfl) (fun _ _ _ h => h) (by rfl) ?_ (by assumption) ?_
  · intro wx hSw
    obtain ⟨y1, y2, y3, y4, y5⟩ := hSw
    go_simp
  simp only [Act.put, List.setIfInBounds_toArray, List.set_cons_zero, List.set_cons_succ]
  refine take_do (i := 4) (v := .int .u8 b2) rfl (by kernel_rfl) (by kernel_rfl) (by kernel_rfl) (fun _ _ _ h => h) (by rfl) ?_ (by assumption) ?_
  · intro wx hSw
    obtain ⟨y1, y2, y3, y4, y5⟩ := hSw
    go_simp
  simp only [Act.put, List.setIfInBounds_toArray, List.set_cons_zero, List.set_cons_succ]
  refine take_do (i := 5) (v := .int .i64 b2) rfl (by kernel_rfl) (by kernel_rfl) (by kernel_rfl) (fun _ _ _ h => h) (by rfl) ?_ (by assumption) ?_
  · intro wx hSw
    obtain ⟨y1, y2, y3, y4, y5⟩ := hSw
    go_simp
  simp only [Act.put, List.setIfInBounds_toArray, List.set_cons_zero, List.set_cons_succ]
  refine take_do (i := 6) (v := .pointer (some ⟨H, 3, none⟩)) rfl (by kernel_rfl) (by kernel_rfl) (by kernel_rfl) (fun _ _ _ h => h) (by rfl) ?_ (by assumption) ?_
  · intro wx hSw
    obtain ⟨y1, y2, y3, y4, y5⟩ := hSw
    go_simp
  simp only [Act.put, List.setIfInBounds_toArray, List.set_cons_zero, List.set_cons_succ]
  refine take_do (i := 7) (v := .int .u8 (d3 : Int)) rfl (by kernel_rfl) (by kernel_rfl) (by kernel_rfl) (fun _ _ _ h => h) (by rfl) ?_ (by assumption) ?_
  · intro wx hSw
    obtain ⟨y1, y2, y3, y4, y5⟩ := hSw
    go_simp
  simp only [Act.put, List.setIfInBounds_toArray, List.set_cons_zero, List.set_cons_succ]
  refine take_do (i := 8) (v := .pointer (some ⟨H, 4, none⟩)) rfl (by kernel_rfl) (by kernel_rfl) (by kernel_rfl) (fun _ _ _ h => h) (by rfl) ?_ (by assumption) ?_
  · intro wx hSw
    obtain ⟨y1, y2, y3, y4, y5⟩ := hSw
    go_simp
  simp only [Act.put, List.setIfInBounds_toArray, List.set_cons_zero, List.set_cons_succ]
  refine take_do (i := 9) (v := .int .u8 (d4 : Int)) rfl (by kernel_rfl) (by kernel_rfl) (by kernel_rfl) (fun _ _ _ h => h) (by rfl) ?_ (by assumption) ?_
  · intro wx hSw
    obtain ⟨y1, y2, y3, y4, y5⟩ := hSw
    go_simp
  simp only [Act.put, List.setIfInBounds_toArray, List.set_cons_zero, List.set_cons_succ]
  refine take_two (i := 10) (j := 13) rfl rfl (by kernel_rfl) (fun K hK => ?_) (fun K hK => ?_)
  · go_simp
    refine (HTW.out _).mono ?_
    rintro e w' ⟨rfl, hw'⟩
    rw [hw']
    clear hw'
    go_wp2_with fail
    refine hK.out _ _ hHeld (fun hHeld2 => ?_)
    clear hK hHeld
    have hHeld := hHeld2
    clear hHeld2
    refine take_do (i := 11) (v := .int .i64 ((d3 : Int) * 256 + (d4 : Int))) rfl (by kernel_rfl) (by kernel_rfl) (by kernel_rfl) (fun _ _ _ h => h) (by rfl) ?_ (by assumption) ?_
    · intro wx hSw
      obtain ⟨y1, y2, y3, y4, y5⟩ := hSw
      go_simp
    simp only [Act.put, List.setIfInBounds_toArray, List.set_cons_zero, List.set_cons_succ]
    refine take_do (i := 12) (v := .agg #[.int .i64 b1, .int .i64 b2, .int .i64 ((d3 : Int) * 256 + (d4 : Int)), .string ⟨#[]⟩]) rfl (by kernel_rfl) (by kernel_rfl) (by kernel_rfl) (fun _ _ _ h => h) (by rfl) ?_ (by assumption) ?_
    · intro wx hSw
      obtain ⟨y1, y2, y3, y4, y5⟩ := hSw
      go_simp
    simp only [Act.put, List.setIfInBounds_toArray, List.set_cons_zero, List.set_cons_succ]
    refine take_call (i := 13) rfl (by kernel_rfl) (fun K hK => ?_)
    go_simp
    refine hK.out _ _ (hHeld.alloc _) (fun hHeld2 => ?_)
    clear hK hHeld
    have hHeld := hHeld2
    clear hHeld2
    refine take_call (i := 14) rfl (by kernel_rfl) (fun K hK => ?_)
    go_simp
    refine hK.out _ _ (hHeld0.alloc _) (fun hHeld2 => ?_)
    clear hK hHeld hHeld0
    have hHeld := hHeld2
    clear hHeld2
    refine wpAnyH_done (by kernel_rfl) ?_ _
    have hlt3 : H < V.heap.size := hlt2
    have HX : Hid (Below (w.heap.size + 1) (w.alloc frO) (V.alloc (.cells #[.int .i64 b1, .int .i64 b2, .int .i64 ((d3 : Int) * 256 + (d4 : Int)), .string ⟨#[]⟩] 70)).drew) := (HK.out.alloc (by have := HK.out.size; simp at this ⊢; omega) _).drew
    have z0 : (V.alloc (.cells #[.int .i64 b1, .int .i64 b2, .int .i64 ((d3 : Int) * 256 + (d4 : Int)), .string ⟨#[]⟩] 70)).drew.cell? ⟨V.heap.size, 0, none⟩ = some (.int .i64 b1) := by show (V.alloc (.cells #[.int .i64 b1, .int .i64 b2, .int .i64 ((d3 : Int) * 256 + (d4 : Int)), .string ⟨#[]⟩] 70)).cell? _ = _; rw [World.cell?_alloc_at _ _ _ _ rfl]; rfl
    have z1 : (V.alloc (.cells #[.int .i64 b1, .int .i64 b2, .int .i64 ((d3 : Int) * 256 + (d4 : Int)), .string ⟨#[]⟩] 70)).drew.cell? ⟨V.heap.size, 1, none⟩ = some (.int .i64 b2) := by show (V.alloc (.cells #[.int .i64 b1, .int .i64 b2, .int .i64 ((d3 : Int) * 256 + (d4 : Int)), .string ⟨#[]⟩] 70)).cell? _ = _; rw [World.cell?_alloc_at _ _ _ _ rfl]; rfl
    have z2 : (V.alloc (.cells #[.int .i64 b1, .int .i64 b2, .int .i64 ((d3 : Int) * 256 + (d4 : Int)), .string ⟨#[]⟩] 70)).drew.cell? ⟨V.heap.size, 2, none⟩ = some (.int .i64 ((d3 : Int) * 256 + (d4 : Int))) := by show (V.alloc (.cells #[.int .i64 b1, .int .i64 b2, .int .i64 ((d3 : Int) * 256 + (d4 : Int)), .string ⟨#[]⟩] 70)).cell? _ = _; rw [World.cell?_alloc_at _ _ _ _ rfl]; rfl
    have z3 : (V.alloc (.cells #[.int .i64 b1, .int .i64 b2, .int .i64 ((d3 : Int) * 256 + (d4 : Int)), .string ⟨#[]⟩] 70)).drew.cell? ⟨V.heap.size, 3, none⟩ = some (.string ⟨#[]⟩) := by show (V.alloc (.cells #[.int .i64 b1, .int .i64 b2, .int .i64 ((d3 : Int) * 256 + (d4 : Int)), .string ⟨#[]⟩] 70)).cell? _ = _; rw [World.cell?_alloc_at _ _ _ _ rfl]; rfl
    have zy : (V.alloc (.cells #[.int .i64 b1, .int .i64 b2, .int .i64 ((d3 : Int) * 256 + (d4 : Int)), .string ⟨#[]⟩] 70)).drew.cell? ⟨H, 5, none⟩ = some (.int .u8 b5) := by show (V.alloc (.cells #[.int .i64 b1, .int .i64 b2, .int .i64 ((d3 : Int) * 256 + (d4 : Int)), .string ⟨#[]⟩] 70)).cell? ⟨H, 5, none⟩ = _; rw [World.cell?_alloc_lt _ _ ⟨H, 5, none⟩ hlt3]; exact y5
    have hVX : V.heap.size < (V.alloc (.cells #[.int .i64 b1, .int .i64 b2, .int .i64 ((d3 : Int) * 256 + (d4 : Int)), .string ⟨#[]⟩] 70)).drew.heap.size := by simp
    have hwX : w.heap.size < V.heap.size := by omega
    generalize (V.alloc (.cells #[.int .i64 b1, .int .i64 b2, .int .i64 ((d3 : Int) * 256 + (d4 : Int)), .string ⟨#[]⟩] 70)).drew = X at *
    clear y1 y2 y3 y4 y5 hHeld HTW HK hlt2 hlt3
    generalize V.heap.size = F at *
    rw [← HQ.out] at z2
    rw [← HQ.out]
    have hq0 : 0 ≤ q := by rw [HQ.out]; omega
    clear hw3
    go_wp2_with fail
    refine (implFrRight b1 b2 q ⟨#[]⟩ _).mono ?_
    rintro e w3 ⟨rfl, hb⟩
    have e0 : (⟨#[]⟩ : ByteArray).size = 0 := rfl
    rw [e0]
    clear e0
    have HX3 : Hid (Below (w.heap.size + 1) (w.alloc frO) w3) := HX.out.trans (hb.mono (by have := HX.out.size; simp at this ⊢; omega))
    have g0 := (hb.cell (World.block_lt_of_cell? _ _ z0)).trans z0
    have g1 := (hb.cell (World.block_lt_of_cell? _ _ z1)).trans z1
    have g2 := (hb.cell (World.block_lt_of_cell? _ _ z2)).trans z2
    have g3 := (hb.cell (World.block_lt_of_cell? _ _ z3)).trans z3
    obtain ⟨⟨c0, c1, c2, c3⟩, ⟨f0, f1, f2, f3⟩, hzz, HB⟩ := kept4 HX3.out
    clear hb z0 z1 z2 z3 zy HX
    cases hr : Fr.rightB b1 b2 q 0
    · have HNO : Hid (Bad = true) := hBad.out.2 (Or.inl hr)
      go_wp2_with fail
      refine bodyPost_ret (v := .tuple #[.agg #[.int .i64 0, .int .i64 0, .int .i64 0, .string ⟨#[]⟩], .int .i64 0, errV ⟨#[97, 32, 102, 114, 97, 109, 101, 39, 115, 32, 104, 101, 97, 100]⟩ 1]) (by simp [results, Tryz.results111, go_sem, c0, c1, c2, c3]) rfl ?_
      exact ⟨⟨_, rfl, fun _ => rfl, fun h => by rw [EE.out.1, HNO.out] at h; cases h⟩, below_set4 HB.out (Nat.le_refl _) _ _ _ _⟩
    · by_cases hn : 64 < n
      · have HNO : Hid (Bad = true) := hBad.out.2 (Or.inr hn)
        have hn2 : (64 : Int) < b5 := by have := HL.out; omega
        go_wp2_with fail
        refine bodyPost_ret (v := .tuple #[.agg #[.int .i64 0, .int .i64 0, .int .i64 0, .string ⟨#[]⟩], .int .i64 0, errV ⟨#[97, 32, 102, 114, 97, 109, 101, 39, 115, 32, 104, 101, 97, 100]⟩ 1]) (by simp [results, Tryz.results111, go_sem, c0, c1, c2, c3]) rfl ?_
        exact ⟨⟨_, rfl, fun _ => rfl, fun h => by rw [EE.out.1, HNO.out] at h; cases h⟩, below_set4 HB.out (Nat.le_refl _) _ _ _ _⟩
      · have HNO : Hid (Bad = false) := by
          show _ = _
          cases hB : Bad
          · rfl
          · rcases hBad.out.1 hB with h | h
            · rw [hr] at h; cases h
            · exact absurd h hn
        have hn2 : ¬ (64 : Int) < b5 := by have := HL.out; omega
        go_wp2_with fail
        refine bodyPost_ret (v := .tuple #[.agg #[.int .i64 b1, .int .i64 b2, .int .i64 q, .string ⟨#[]⟩], .int .i64 b5, .nilIface]) (by simp [results, Tryz.results111, go_sem, c0, c1, c2, c3]) rfl ?_
        exact ⟨⟨_, rfl, fun h => by rw [EE.out.1, HNO.out] at h; (cases h), fun _ => by rw [EE.out.2.1, EE.out.2.2.1, EE.out.2.2.2.1, EE.out.2.2.2.2, HL.out]⟩, below_set4 HB.out (Nat.le_refl _) _ _ _ _⟩
  · go_simp
    refine hK.out _ _ (hHeld.alloc _) (fun hHeld2 => ?_)
    clear hK hHeld
    have hHeld := hHeld2
    clear hHeld2
    refine take_call (i := 10) rfl (by kernel_rfl) (fun K hK => ?_)
    go_simp
    refine (HTW.out _).mono ?_
    rintro e w' ⟨rfl, hw'⟩
    rw [hw']
    clear hw'
    go_wp2_with fail
    refine hK.out _ _ hHeld (fun hHeld2 => ?_)
    clear hK hHeld
    have hHeld := hHeld2
    clear hHeld2
    refine take_do (i := 11) (v := .int .i64 ((d3 : Int) * 256 + (d4 : Int))) rfl (by kernel_rfl) (by kernel_rfl) (by kernel_rfl) (fun _ _ _ h => h) (by rfl) ?_ (by assumption) ?_
    · intro wx hSw
      obtain ⟨y1, y2, y3, y4, y5⟩ := hSw
      go_simp
    simp only [Act.put, List.setIfInBounds_toArray, List.set_cons_zero, List.set_cons_succ]
    refine take_do (i := 12) (v := .agg #[.int .i64 b1, .int .i64 b2, .int .i64 ((d3 : Int) * 256 + (d4 : Int)), .string ⟨#[]⟩]) rfl (by kernel_rfl) (by kernel_rfl) (by kernel_rfl) (fun _ _ _ h => h) (by rfl) ?_ (by assumption) ?_
    · intro wx hSw
      obtain ⟨y1, y2, y3, y4, y5⟩ := hSw
      go_simp
    simp only [Act.put, List.setIfInBounds_toArray, List.set_cons_zero, List.set_cons_succ]
    refine take_call (i := 14) rfl (by kernel_rfl) (fun K hK => ?_)
    go_simp
    refine hK.out _ _ (hHeld0.alloc _) (fun hHeld2 => ?_)
    clear hK hHeld hHeld0
    have hHeld := hHeld2
    clear hHeld2
    refine wpAnyH_done (by kernel_rfl) ?_ _
    have hlt3 : H < V.heap.size := hlt2
    have HX : Hid (Below (w.heap.size + 1) (w.alloc frO) (V.alloc (.cells #[.int .i64 b1, .int .i64 b2, .int .i64 ((d3 : Int) * 256 + (d4 : Int)), .string ⟨#[]⟩] 70)).drew) := (HK.out.alloc (by have := HK.out.size; simp at this ⊢; omega) _).drew
    have z0 : (V.alloc (.cells #[.int .i64 b1, .int .i64 b2, .int .i64 ((d3 : Int) * 256 + (d4 : Int)), .string ⟨#[]⟩] 70)).drew.cell? ⟨V.heap.size, 0, none⟩ = some (.int .i64 b1) := by show (V.alloc (.cells #[.int .i64 b1, .int .i64 b2, .int .i64 ((d3 : Int) * 256 + (d4 : Int)), .string ⟨#[]⟩] 70)).cell? _ = _; rw [World.cell?_alloc_at _ _ _ _ rfl]; rfl
    have z1 : (V.alloc (.cells #[.int .i64 b1, .int .i64 b2, .int .i64 ((d3 : Int) * 256 + (d4 : Int)), .string ⟨#[]⟩] 70)).drew.cell? ⟨V.heap.size, 1, none⟩ = some (.int .i64 b2) := by show (V.alloc (.cells #[.int .i64 b1, .int .i64 b2, .int .i64 ((d3 : Int) * 256 + (d4 : Int)), .string ⟨#[]⟩] 70)).cell? _ = _; rw [World.cell?_alloc_at _ _ _ _ rfl]; rfl
    have z2 : (V.alloc (.cells #[.int .i64 b1, .int .i64 b2, .int .i64 ((d3 : Int) * 256 + (d4 : Int)), .string ⟨#[]⟩] 70)).drew.cell? ⟨V.heap.size, 2, none⟩ = some (.int .i64 ((d3 : Int) * 256 + (d4 : Int))) := by show (V.alloc (.cells #[.int .i64 b1, .int .i64 b2, .int .i64 ((d3 : Int) * 256 + (d4 : Int)), .string ⟨#[]⟩] 70)).cell? _ = _; rw [World.cell?_alloc_at _ _ _ _ rfl]; rfl
    have z3 : (V.alloc (.cells #[.int .i64 b1, .int .i64 b2, .int .i64 ((d3 : Int) * 256 + (d4 : Int)), .string ⟨#[]⟩] 70)).drew.cell? ⟨V.heap.size, 3, none⟩ = some (.string ⟨#[]⟩) := by show (V.alloc (.cells #[.int .i64 b1, .int .i64 b2, .int .i64 ((d3 : Int) * 256 + (d4 : Int)), .string ⟨#[]⟩] 70)).cell? _ = _; rw [World.cell?_alloc_at _ _ _ _ rfl]; rfl
    have zy : (V.alloc (.cells #[.int .i64 b1, .int .i64 b2, .int .i64 ((d3 : Int) * 256 + (d4 : Int)), .string ⟨#[]⟩] 70)).drew.cell? ⟨H, 5, none⟩ = some (.int .u8 b5) := by show (V.alloc (.cells #[.int .i64 b1, .int .i64 b2, .int .i64 ((d3 : Int) * 256 + (d4 : Int)), .string ⟨#[]⟩] 70)).cell? ⟨H, 5, none⟩ = _; rw [World.cell?_alloc_lt _ _ ⟨H, 5, none⟩ hlt3]; exact y5
    have hVX : V.heap.size < (V.alloc (.cells #[.int .i64 b1, .int .i64 b2, .int .i64 ((d3 : Int) * 256 + (d4 : Int)), .string ⟨#[]⟩] 70)).drew.heap.size := by simp
    have hwX : w.heap.size < V.heap.size := by omega
    generalize (V.alloc (.cells #[.int .i64 b1, .int .i64 b2, .int .i64 ((d3 : Int) * 256 + (d4 : Int)), .string ⟨#[]⟩] 70)).drew = X at *
    clear y1 y2 y3 y4 y5 hHeld HTW HK hlt2 hlt3
    generalize V.heap.size = F at *
    rw [← HQ.out] at z2
    rw [← HQ.out]
    have hq0 : 0 ≤ q := by rw [HQ.out]; omega
    clear hw3
    go_wp2_with fail
    refine (implFrRight b1 b2 q ⟨#[]⟩ _).mono ?_
    rintro e w3 ⟨rfl, hb⟩
    have e0 : (⟨#[]⟩ : ByteArray).size = 0 := rfl
    rw [e0]
    clear e0
    have HX3 : Hid (Below (w.heap.size + 1) (w.alloc frO) w3) := HX.out.trans (hb.mono (by have := HX.out.size; simp at this ⊢; omega))
    have g0 := (hb.cell (World.block_lt_of_cell? _ _ z0)).trans z0
    have g1 := (hb.cell (World.block_lt_of_cell? _ _ z1)).trans z1
    have g2 := (hb.cell (World.block_lt_of_cell? _ _ z2)).trans z2
    have g3 := (hb.cell (World.block_lt_of_cell? _ _ z3)).trans z3
    obtain ⟨⟨c0, c1, c2, c3⟩, ⟨f0, f1, f2, f3⟩, hzz, HB⟩ := kept4 HX3.out
    clear hb z0 z1 z2 z3 zy HX
    cases hr : Fr.rightB b1 b2 q 0
    · have HNO : Hid (Bad = true) := hBad.out.2 (Or.inl hr)
      go_wp2_with fail
      refine bodyPost_ret (v := .tuple #[.agg #[.int .i64 0, .int .i64 0, .int .i64 0, .string ⟨#[]⟩], .int .i64 0, errV ⟨#[97, 32, 102, 114, 97, 109, 101, 39, 115, 32, 104, 101, 97, 100]⟩ 1]) (by simp [results, Tryz.results111, go_sem, c0, c1, c2, c3]) rfl ?_
      exact ⟨⟨_, rfl, fun _ => rfl, fun h => by rw [EE.out.1, HNO.out] at h; cases h⟩, below_set4 HB.out (Nat.le_refl _) _ _ _ _⟩
    · by_cases hn : 64 < n
      · have HNO : Hid (Bad = true) := hBad.out.2 (Or.inr hn)
        have hn2 : (64 : Int) < b5 := by have := HL.out; omega
        go_wp2_with fail
        refine bodyPost_ret (v := .tuple #[.agg #[.int .i64 0, .int .i64 0, .int .i64 0, .string ⟨#[]⟩], .int .i64 0, errV ⟨#[97, 32, 102, 114, 97, 109, 101, 39, 115, 32, 104, 101, 97, 100]⟩ 1]) (by simp [results, Tryz.results111, go_sem, c0, c1, c2, c3]) rfl ?_
        exact ⟨⟨_, rfl, fun _ => rfl, fun h => by rw [EE.out.1, HNO.out] at h; cases h⟩, below_set4 HB.out (Nat.le_refl _) _ _ _ _⟩
      · have HNO : Hid (Bad = false) := by
          show _ = _
          cases hB : Bad
          · rfl
          · rcases hBad.out.1 hB with h | h
            · rw [hr] at h; cases h
            · exact absurd h hn
        have hn2 : ¬ (64 : Int) < b5 := by have := HL.out; omega
        go_wp2_with fail
        refine bodyPost_ret (v := .tuple #[.agg #[.int .i64 b1, .int .i64 b2, .int .i64 q, .string ⟨#[]⟩], .int .i64 b5, .nilIface]) (by simp [results, Tryz.results111, go_sem, c0, c1, c2, c3]) rfl ?_
        exact ⟨⟨_, rfl, fun h => by rw [EE.out.1, HNO.out] at h; (cases h), fun _ => by rw [EE.out.2.1, EE.out.2.2.1, EE.out.2.2.2.1, EE.out.2.2.2.2, HL.out]⟩, below_set4 HB.out (Nat.le_refl _) _ _ _ _⟩
end Go.Proofs.YtdlojhncbgfjbaaGreatDoor
