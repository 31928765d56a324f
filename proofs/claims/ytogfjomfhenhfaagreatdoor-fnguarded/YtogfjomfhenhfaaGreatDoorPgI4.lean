/-
  The program's test of the blocks of a program.
-/
import Derived.Test.YtogfjomfhenhfaaGreatDoorPgI3
namespace Go.Proofs.YtogfjomfhenhfaaGreatDoor
open Go.RowKit Go.Deep

namespace Pg
/-- The names of the first blocks, with their places. -/
def nmL (B : Nat → Bk) (i : Nat) : SL := (List.range i).map (fun k => ((B k).name, Value.int .i64 ((k : Nat) : Int)))
theorem nmL_len (B : Nat → Bk) (i : Nat) : (nmL B i).length = i := by simp [nmL]
theorem nmL_succ (B : Nat → Bk) (i : Nat) : nmL B (i + 1) = nmL B i ++ [((B i).name, Value.int .i64 ((i : Nat) : Int))] := by
  unfold nmL
  rw [List.range_succ, List.map_append]
  rfl
theorem nmL_new {B : Nat → Bk} {i : Nat} {s : ByteArray} : sget (nmL B i) s = none ↔ New B i s := by
  rw [sget_none_iff]
  constructor
  · intro h k hk
    exact h ((B k).name, .int .i64 ((k : Nat) : Int)) (List.mem_map.2 ⟨k, List.mem_range.2 hk, rfl⟩)
  · intro h x hx
    obtain ⟨k, hk, rfl⟩ := List.mem_map.1 hx
    exact h k (List.mem_range.1 hk)
end Pg
theorem row_ne_map {w : World} {g b n : Nat} {t : TypeId} {F : Nat → Value} {l : SL} (h : w.rowIs g t n F) (k : SMap b l w) : g ≠ b := by
  rintro rfl
  obtain ⟨es, c, h1, _⟩ := k.ex
  obtain ⟨cs, h2, _⟩ := h
  rw [h1] at h2
  cases h2
/-- What lasts in the test of the blocks. -/
structure BrS (p : Pg.Prog) (la : Option Addr) (lk : Nat) (fa : Option Addr) (fk : Nat) (wa : Option Addr) (wk : Nat) (rb b1 b2 i : Nat) (w W : World) : Prop where
  box : W.rowIs w.heap.size 27 3 (rowN (pgL p la lk fa fk wa wk))
  reg : W.rowIs rb 129 2 (rowN [.map (some b1), .map (some b2)])
  m1 : SMap b1 (Pg.kdL 7) W
  m2 : SMap b2 (Pg.nmL p.B i) W
  lo : w.heap.size ≤ b1 ∧ b1 < b2
  old : Below w.heap.size w W
theorem BrS.below {p : Pg.Prog} {la : Option Addr} {lk : Nat} {fa : Option Addr} {fk : Nat} {wa : Option Addr} {wk rb b1 b2 i : Nat} {w W W' : World} (h : BrS p la lk fa fk wa wk rb b1 b2 i w W) (hb : Below W.heap.size W W') : BrS p la lk fa fk wa wk rb b1 b2 i w W' := ⟨nrow_below h.box hb, nrow_below h.reg hb, h.m1.below hb, h.m2.below hb, h.lo, h.old.trans (hb.mono h.old.size)⟩
theorem BrS.only {p : Pg.Prog} {la : Option Addr} {lk : Nat} {fa : Option Addr} {fk : Nat} {wa : Option Addr} {wk rb b1 b2 i j : Nat} {w W W' : World} (h : BrS p la lk fa fk wa wk rb b1 b2 i w W) (ho : Only b2 W W') (hm : SMap b2 (Pg.nmL p.B j) W') : BrS p la lk fa fk wa wk rb b1 b2 j w W' :=
  ⟨h.box.of_block (ho.block _ h.box.lt (row_ne_map h.box h.m2)), h.reg.of_block (ho.block _ h.reg.lt (row_ne_map h.reg h.m2)), h.m1.block (ho.block _ h.m1.lt (by have := h.lo; omega)), hm, h.lo, Below.only h.old ho (by have := h.lo; omega)⟩
set_option maxRecDepth 100000 in
set_option maxHeartbeats 4000000 in
theorem blocksRight_any (p : Pg.Prog) (la : Option Addr) (lk : Nat) (fa : Option Addr) (fk : Nat) (wa : Option Addr) (wk : Nat) (w : World) (h : BksAt la p.bn p.B w) (hs : PgNames p.bn p.B) (hn : p.bn ≤ 1048576) :
    Calls Tryz.prog 68 #[pgV p la lk fa fk wa wk] w fun e w' => e = .returned (.bool (dB (∀ i, i < p.bn → Pg.BlockOk p i))) ∧ Below w.heap.size w w' := by
  obtain ⟨W, hW⟩ : ∃ W, W = w.alloc (.cells #[.slice la p.bn lk, .slice fa p.on fk, .slice wa p.nn wk] 27) := ⟨_, rfl⟩
  have hB : Below w.heap.size w W := by rw [hW]; exact nbel_alloc _ _
  have R0 : W.rowIs w.heap.size 27 3 (rowN (pgL p la lk fa fk wa wk)) := by rw [hW]; exact rowN_alloc w _ _
  have H := Lib.hid h
  have HN := Lib.hid hs
  have HB := Lib.hid hB
  have HR := Lib.hid R0
  have HW := Lib.hid hW
  clear h hs hB R0 hW
  go_enter Tryz.func68, Tryz.ntmps68
  go_wp2_with fail
  rw [← HW.out]
  refine (newReg_any _).mono ?_
  rintro e w1 ⟨⟨b1, b2, rfl, hlo, m1, m2⟩, hb⟩
  have R1 := nrow_below HR.out hb
  have hl2 := R1.lt
  have HS : Hid (BrS p la lk fa fk wa wk w1.heap.size b1 b2 0 w (w1.alloc (.cells #[.map (some b1), .map (some b2)] 129))) := by
    have hB1 : Below w.heap.size w w1 := HB.out.trans (hb.mono HB.out.size)
    refine ⟨nrow_below R1 (nbel_alloc _ _), rowN_alloc w1 _ _, m1.below (nbel_alloc _ _), m2.below (nbel_alloc _ _), ⟨?_, hlo.2⟩, hB1.alloc hB1.size _⟩
    have := HB.out.size
    omega
  obtain ⟨⟨c0, c1, c2⟩, _⟩ := rowN3 R1
  clear hb HB HR R1 m1 m2 hlo
  go_wp2_with fail
  clear c0 c1 c2 hl2
  go_loopw [10] (fun iv wr => ∃ (i : Nat), i ≤ p.bn ∧ iv = .int .i64 i ∧ Hid (BrS p la lk fa fk wa wk w1.heap.size b1 b2 i w wr) ∧ Hid (∀ j, j < i → Pg.BlockOk p j)) (fun iv _ => p.bn - (intOf iv).toNat)
  case atStart => exact ⟨0, Nat.zero_le _, rfl, HS, fun j hj => absurd hj (Nat.not_lt_zero _)⟩
  case round =>
    obtain ⟨i, hi, rfl, hS, hP⟩ := hrel
    clear HS
    by_cases hlt : i < p.bn
    · have hltz : (i : Int) < (p.bn : Int) := by omega
      obtain ⟨b, rfl, c0, c1, c2, c3⟩ := (H.out.below hS.out.old).at_ hlt
      obtain ⟨⟨r0, r1⟩, _⟩ := rowN2 hS.out.reg
      have rl := hS.out.reg.lt
      obtain ⟨V, hV⟩ : ∃ V, V = wr.alloc (.cells #[.int .i64 (p.B i).kind, .string (p.B i).name, .int .i64 (p.B i).a, .int .i64 (p.B i).b] 84) := ⟨_, rfl⟩
      have S1 : Hid (BrS p (some ⟨b, 0, none⟩) lk fa fk wa wk w1.heap.size b1 b2 i w V) := by
        show BrS _ _ _ _ _ _ _ _ _ _ _ _ _
        rw [hV]; exact hS.out.below (nbel_alloc _ _)
      have RV : Hid (V.rowIs wr.heap.size 84 4 (rowN [.int .i64 (p.B i).kind, .string (p.B i).name, .int .i64 (p.B i).a, .int .i64 (p.B i).b])) := by
        show World.rowIs _ _ _ _ _
        rw [hV]; exact rowN_alloc wr _ _
      have HV := Lib.hid hV
      have HLB : Hid (b2 < wr.heap.size) := hS.out.m2.lt
      clear hV hS
      go_wp2_with fail
      rw [← HV.out]
      refine (enter_any b1 b2 (Pg.nmL p.B i) (p.B i).name _ S1.out.m1 S1.out.m2 (by have := HN.out i hlt; omega)).mono ?_
      rintro e w2 hE
      clear c0 c1 c2 c3 r0 r1 rl HV
      rcases hE with ⟨hf, hnew, rfl, hm, ho⟩ | ⟨hno, rfl, hb⟩
      · rw [Pg.nmL_len, ← Pg.nmL_succ] at hm
        have S2 := S1.out.only ho hm
        have RV2 : w2.rowIs wr.heap.size 84 4 (rowN [.int .i64 (p.B i).kind, .string (p.B i).name, .int .i64 (p.B i).a, .int .i64 (p.B i).b]) := RV.out.of_block (ho.block _ RV.out.lt (by have := HLB.out; omega))
        have HF : Hid (Pg.Free (p.B i).name ∧ Pg.New p.B i (p.B i).name) := ⟨hf, Pg.nmL_new.1 hnew⟩
        obtain ⟨⟨c0, c1, c2, c3⟩, _⟩ := rowN4 RV2
        obtain ⟨⟨x0, x1, x2⟩, _⟩ := rowN3 S2.box
        have HS2 := Lib.hid S2
        clear S1 RV hm ho hf hnew RV2 S2
        go_wp2_with fail
        refine (partsRight_any (p.B i) i p.bn (by omega) hn _).mono ?_
        rintro e w3 ⟨rfl, hb⟩
        have HS3 := Lib.hid (HS2.out.below hb)
        clear hb HS2 c0 c1 c2 c3 x0 x1 x2
        by_cases k : Pg.PartsOk (p.B i) i p.bn
        · rw [dB_tt k]
          have HP2 : Hid (∀ j, j < i + 1 → Pg.BlockOk p j) := fun j hj => by
            by_cases e : j = i
            · subst e; exact ⟨HF.out.1, HF.out.2, k⟩
            · exact hP.out j (by omega)
          clear k hP
          go_wp2_with fail
          go_roundw
          case rel => exact ⟨i + 1, by omega, by go_num, HS3, HP2⟩
          case measure => simp [intOf]; omega
        · rw [dB_ff k]
          have HK : Hid (dB (∀ i, i < p.bn → Pg.BlockOk p i) = false) := dB_ff (fun q => k (q i hlt).2.2)
          clear k
          go_wp2_with fail
          go_ret
          exact ⟨by rw [HK.out]; rfl, HS3.out.old⟩
      · have HK : Hid (dB (∀ i, i < p.bn → Pg.BlockOk p i) = false) := dB_ff (fun q => hno ⟨(q i hlt).1, Pg.nmL_new.2 (q i hlt).2.1⟩)
        have HS3 := Lib.hid (S1.out.below hb)
        clear hno hb
        go_wp2_with fail
        go_ret
        exact ⟨by rw [HK.out]; rfl, HS3.out.old⟩
    · obtain rfl : i = p.bn := by omega
      have HK : Hid (dB (∀ i, i < p.bn → Pg.BlockOk p i) = true) := dB_tt hP.out
      go_wp2_with fail
      go_ret
      exact ⟨by rw [HK.out]; rfl, hS.out.old⟩
end Go.Proofs.YtogfjomfhenhfaaGreatDoor
