/-
  The program's register of words and names.
-/
import Derived.Test.YtogfjomfhenhfaaGreatDoorPgI2
import Derived.Maps.Own
import Derived.Maps.OwnOps
namespace Go.Proofs.YtogfjomfhenhfaaGreatDoor
open Go.RowKit Go.Deep

namespace Pg
/-- The words of lines and their kinds, as they are entered. -/
def kdL (j : Nat) : SL := [(wd 8, .int .i64 8), (wd 9, .int .i64 9)] ++ (List.range j).map (fun i => (wd (i + 1), Value.int .i64 ((i + 1 : Nat) : Int)))
theorem kdL_succ (j : Nat) : kdL (j + 1) = kdL j ++ [(wd (j + 1), Value.int .i64 ((j + 1 : Nat) : Int))] := by
  unfold kdL
  rw [List.range_succ, List.map_append, ← List.append_assoc]
  rfl
theorem kdL_new {j : Nat} (h : j < 7) : sget (kdL j) (wd (j + 1)) = none := by
  refine sget_none (fun x hx e => ?_)
  unfold kdL at hx
  rcases List.mem_append.1 hx with hx | hx
  · simp at hx
    rcases hx with rfl | rfl
    · have := wd_inj (i := 8) (j := j + 1) (by omega) (by omega) e; omega
    · have := wd_inj (i := 9) (j := j + 1) (by omega) (by omega) e; omega
  · obtain ⟨i, hi, rfl⟩ := List.mem_map.1 hx
    have hi2 := List.mem_range.1 hi
    have := wd_inj (i := i + 1) (j := j + 1) (by omega) (by omega) e
    omega
theorem kd_word (s : ByteArray) : (sget (kdL 7) s).isSome = true ↔ Word s := by
  constructor
  · intro h
    obtain ⟨v, hv⟩ := Option.isSome_iff_exists.1 h
    have := sget_mem hv
    unfold kdL at this
    rcases List.mem_append.1 this with hx | hx
    · simp at hx
      rcases hx with ⟨rfl, _⟩ | ⟨rfl, _⟩
      · exact ⟨8, by omega, rfl⟩
      · exact ⟨9, by omega, rfl⟩
    · obtain ⟨i, hi, e⟩ := List.mem_map.1 hx
      have hi2 := List.mem_range.1 hi
      have := congrArg Prod.fst e
      exact ⟨i + 1, by omega, this⟩
  · rintro ⟨k, hk, rfl⟩
    rw [Option.isSome_iff_ne_none]
    intro hn
    have hn2 := sget_none_iff.1 hn
    have : k = 8 ∨ k = 9 ∨ k ≤ 7 := by omega
    rcases this with rfl | rfl | h7
    · exact hn2 (wd 8, .int .i64 8) (by simp [kdL]) rfl
    · exact hn2 (wd 9, .int .i64 9) (by simp [kdL]) rfl
    · refine hn2 (wd (k - 1 + 1), Value.int .i64 ((k - 1 + 1 : Nat) : Int)) ?_ (by show wd (k - 1 + 1) = wd k; rw [Nat.sub_add_cancel hk.1])
      unfold kdL
      exact List.mem_append.2 (Or.inr (List.mem_map.2 ⟨k - 1, List.mem_range.2 (by omega), rfl⟩))
theorem fw_nat {j : Nat} (h : j < 7) : fw ((j : Int) + 1) = wd (j + 1) := by
  unfold fw
  rw [if_pos (by omega), show ((j : Int) + 1).toNat = j + 1 by omega]
theorem wd_len {k : Nat} (h : 1 ≤ k ∧ k ≤ 9) : (wd k).size ≤ maxLen := by
  have : k = 1 ∨ k = 2 ∨ k = 3 ∨ k = 4 ∨ k = 5 ∨ k = 6 ∨ k = 7 ∨ k = 8 ∨ k = 9 := by omega
  unfold maxLen
  rcases this with rfl | rfl | rfl | rfl | rfl | rfl | rfl | rfl | rfl <;> decide
end Pg
theorem fo_field (a b c : Value) (w : World) : (Instr.field 151 (.agg #[a, b, c]) 0).run Tryz.prog w = .ok a w := by kernel_rfl
theorem szero (w : World) : (zeroValue 2).run Tryz.prog w = .ok (.int .i64 0) w := by kernel_rfl
theorem Only.trans {g : Nat} {a b c : World} (h : Only g a b) (k : Only g b c) : Only g a c :=
  ⟨k.os.trans h.os, k.tape.trans h.tape, k.output.trans h.output, Nat.le_trans h.size k.size, fun q hq hne => (k.block q (Nat.lt_of_lt_of_le hq h.size) hne).trans (h.block q hq hne)⟩
theorem Below.only {g : Nat} {a b c : World} (h : Below a.heap.size a b) (k : Only g b c) (hg : a.heap.size ≤ g) : Below a.heap.size a c :=
  h.trans (k.below hg h.size)
/-- What stands while the register is made. -/
structure NrS (l : SL) (w W : World) : Prop where
  row : W.rowIs w.heap.size 129 2 (rowN [.map none, .map none])
  mp : SMap (w.heap.size + 1) l W
  old : Below w.heap.size w W
theorem NrS.below {l : SL} {w W W' : World} (h : NrS l w W) (hb : Below W.heap.size W W') : NrS l w W' := ⟨nrow_below h.row hb, h.mp.below hb, h.old.trans (hb.mono h.old.size)⟩
/-- The register is there. -/
def RegEnd (w : World) (e : Ending) (w' : World) : Prop := ∃ b1 b2, e = .returned (.agg #[.map (some b1), .map (some b2)]) ∧ (w.heap.size ≤ b1 ∧ b1 < b2) ∧ SMap b1 (Pg.kdL 7) w' ∧ SMap b2 [] w'
set_option maxRecDepth 100000 in
set_option maxHeartbeats 4000000 in
theorem newReg_any (w : World) :
    Calls Tryz.prog 86 #[] w fun e w' => RegEnd w e w' ∧ Below w.heap.size w w' := by
  obtain ⟨W, hW⟩ : ∃ W, W = (w.alloc (.cells #[.map none, .map none] 129)).alloc (.map #[] 0) := ⟨_, rfl⟩
  have S0 : NrS [] w W := by
    rw [hW]
    refine ⟨nrow_below (rowN_alloc w _ _) (nbel_alloc _ _), ?_, (nbel_alloc _ _).alloc (by simp) _⟩
    have := smap_made (w.alloc (.cells #[.map none, .map none] 129))
    simpa using this
  obtain ⟨W1, r1, m1, o1⟩ := S0.mp.put_new Tryz.underlying127 (s := Pg.wd 8) (Pg.wd_len (by omega)) rfl (.int .i64 8)
  obtain ⟨W2, r2, m2, o2⟩ := m1.put_new Tryz.underlying127 (s := Pg.wd 9) (Pg.wd_len (by omega)) (sget_none (fun x hx e => by simp at hx; subst hx; have := Pg.wd_inj (i := 8) (j := 9) (by omega) (by omega) e; omega)) (.int .i64 9)
  have S2 : Hid (NrS (Pg.kdL 0) w W2) := ⟨(S0.row.of_block (o1.block _ S0.row.lt (by omega))).of_block (o2.block _ (Nat.lt_of_lt_of_le S0.row.lt o1.size) (by omega)), m2, Below.only (Below.only S0.old o1 (by omega)) o2 (by omega)⟩
  have hmm := @run_makeMap Tryz.prog
  rw [hW] at r1
  have q1 : (Instr.mapUpdate 127 (.map (some (w.heap.size + 1))) (.string ⟨#[111, 117, 116]⟩) (.int .i64 8)).run Tryz.prog ((w.alloc (.cells #[.map none, .map none] 129)).alloc (.map #[] 0)) = .ok () W1 := r1
  have q2 : (Instr.mapUpdate 127 (.map (some (w.heap.size + 1))) (.string ⟨#[110, 101, 118, 101, 114]⟩) (.int .i64 9)).run Tryz.prog W1 = .ok () W2 := r2
  clear S0 m1 o1 m2 o2 r1 r2 hW
  go_enter Tryz.func86, Tryz.ntmps86
  go_wp2_with fail
  clear q1 q2
  go_loopw [2] (fun kv wr => ∃ (j : Nat), j ≤ 7 ∧ kv = .int .i64 ((j : Int) + 1) ∧ Hid (NrS (Pg.kdL j) w wr)) (fun kv _ => (8 - intOf kv).toNat)
  case atStart => exact ⟨0, by omega, rfl, S2⟩
  case round =>
    obtain ⟨j, hj, rfl, hS⟩ := hrel
    clear S2
    by_cases hlt : j < 7
    · have hltz : (j : Int) + 1 ≤ 7 := by omega
      go_wp2_with fail
      refine (formOf_any ((j : Int) + 1) _).mono ?_
      rintro e w1 ⟨rfl, hb⟩
      have S3 := hS.out.below hb
      clear hb hS
      have hf := fo_field (.string (Pg.fw ((j : Int) + 1))) (.int .i64 (Pg.fp0 ((j : Int) + 1))) (.int .i64 (Pg.fp1 ((j : Int) + 1)))
      rw [Pg.fw_nat hlt] at hf
      have ef : foV ((j : Int) + 1) = .agg #[.string (Pg.wd (j + 1)), .int .i64 (Pg.fp0 ((j : Int) + 1)), .int .i64 (Pg.fp1 ((j : Int) + 1))] := by
        show Value.agg #[.string (Pg.fw ((j : Int) + 1)), .int .i64 (Pg.fp0 ((j : Int) + 1)), .int .i64 (Pg.fp1 ((j : Int) + 1))] = _
        rw [Pg.fw_nat hlt]
      rw [ef]
      clear ef
      obtain ⟨w2, r2, m2, o2⟩ := S3.mp.put_new Tryz.underlying127 (s := Pg.wd (j + 1)) (Pg.wd_len (by omega)) (Pg.kdL_new hlt) (.int .i64 ((j : Int) + 1))
      have S4 : Hid (NrS (Pg.kdL (j + 1)) w w2) := ⟨S3.row.of_block (o2.block _ S3.row.lt (by omega)), by rw [Pg.kdL_succ]; exact m2, Below.only S3.old o2 (by omega)⟩
      clear S3 m2 o2
      go_wp2_with fail
      go_roundw
      case rel => exact ⟨j + 1, by omega, by go_num, S4⟩
      case measure => simp [intOf]; omega
    · obtain rfl : j = 7 := by omega
      obtain ⟨⟨c0, c1⟩, z0, z1⟩ := rowN2 hS.out.row
      have lt := hS.out.row.lt
      obtain ⟨V, hV⟩ : ∃ V, V = (wr.setCell ⟨w.heap.size, 0, none⟩ (.map (some (w.heap.size + 1)))).setCell ⟨w.heap.size, 1, none⟩ (.map (some wr.heap.size)) := ⟨_, rfl⟩
      have hVs : V.heap.size = wr.heap.size := by rw [hV]; simp
      have hVb : V.heap[w.heap.size + 1]? = wr.heap[w.heap.size + 1]? := by
        rw [hV, Below.heap_setCell _ _ _ _ (by show w.heap.size + 1 ≠ w.heap.size; omega), Below.heap_setCell _ _ _ _ (by show w.heap.size + 1 ≠ w.heap.size; omega)]
      have hVr : V.rowIs w.heap.size 129 2 (rowN [.map (some (w.heap.size + 1)), .map (some wr.heap.size)]) := by
        rw [hV]; exact rowN_put (rowN_put hS.out.row 0 _ (by simp)) 1 _ (by simp)
      have hVo : Below w.heap.size w V := by
        rw [hV]; exact (hS.out.old.setCell (p := ⟨w.heap.size, 0, none⟩) (Nat.le_refl _) _).setCell (p := ⟨w.heap.size, 1, none⟩) (Nat.le_refl _) _
      have HM : Hid (SMap wr.heap.size [] (V.alloc (.map #[] 0)) ∧ SMap (w.heap.size + 1) (Pg.kdL 7) (V.alloc (.map #[] 0)) ∧ w.heap.size + 1 < wr.heap.size ∧ Below w.heap.size w (V.alloc (.map #[] 0))) := ⟨by have := smap_made V; rw [hVs] at this; exact this, (hS.out.mp.block hVb).below (nbel_alloc _ _), hS.out.mp.lt, hVo.alloc hVo.size _⟩
      have HR : Hid ((V.alloc (.map #[] 0)).rowIs w.heap.size 129 2 (rowN [.map (some (w.heap.size + 1)), .map (some wr.heap.size)])) := nrow_below hVr (nbel_alloc _ _)
      have HV := Lib.hid hV
      clear hS hV hVs hVb hVr hVo
      go_wp2_with fail
      rw [← HV.out]
      obtain ⟨⟨x0, x1⟩, _⟩ := rowN2 HR.out
      exact bodyPost_ret (v := .agg #[.map (some (w.heap.size + 1)), .map (some wr.heap.size)]) (by simp only [results, Tryz.results86]; simp [go_sem, x0, x1]) rfl ⟨⟨_, _, rfl, ⟨by omega, HM.out.2.2.1⟩, HM.out.2.1, HM.out.1⟩, HM.out.2.2.2⟩
abbrev rgV (b1 b2 : Nat) : Value := .agg #[.map (some b1), .map (some b2)]
set_option maxRecDepth 100000 in
set_option maxHeartbeats 4000000 in
theorem isFree_any (b1 b2 : Nat) (L : SL) (s : ByteArray) (w : World) (h1 : SMap b1 (Pg.kdL 7) w) (h2 : SMap b2 L w) (hs : s.size ≤ 9223372036854775807) :
    Calls Tryz.prog 107 #[rgV b1 b2, .string s] w fun e w' => e = .returned (.bool (dB (Pg.Free s ∧ sget L s = none))) ∧ Below w.heap.size w w' := by
  have hm : s.size ≤ maxLen := by unfold maxLen; omega
  have l1 := (h1.below (nbel_alloc w (.cells #[.map (some b1), .map (some b2)] 129))).look Tryz.underlying127 szero hm true
  have l2 := (h2.below (nbel_alloc w (.cells #[.map (some b1), .map (some b2)] 129))).look Tryz.underlying127 szero hm true
  simp only [if_true] at l1 l2
  have k1 := Pg.kd_word s
  obtain ⟨v1, e1⟩ : ∃ v, v = (sget (Pg.kdL 7) s).getD (.int .i64 0) := ⟨_, rfl⟩
  obtain ⟨v2, e2⟩ : ∃ v, v = (sget L s).getD (.int .i64 0) := ⟨_, rfl⟩
  obtain ⟨p1, f1⟩ : ∃ v, v = (sget (Pg.kdL 7) s).isSome := ⟨_, rfl⟩
  obtain ⟨p2, f2⟩ : ∃ v, v = (sget L s).isSome := ⟨_, rfl⟩
  rw [← e1, ← f1] at l1
  rw [← e2, ← f2] at l2
  rw [← f1] at k1
  clear e1 e2 h1 h2
  cases p1 with
  | true =>
    have HF : Hid (dB (Pg.Free s ∧ sget L s = none) = false) := dB_ff (fun k => k.1.2 (k1.1 rfl))
    clear k1 f1 f2
    go_enter Tryz.func107, Tryz.ntmps107
    go_wp2_with fail
    go_ret
    exact ⟨by rw [HF.out]; rfl, nbel_alloc _ _⟩
  | false =>
    cases p2 with
    | true =>
      have HF : Hid (dB (Pg.Free s ∧ sget L s = none) = false) := dB_ff (fun k => by rw [k.2] at f2; cases f2)
      clear k1 f1 f2
      go_enter Tryz.func107, Tryz.ntmps107
      go_wp2_with fail
      go_ret
      exact ⟨by rw [HF.out]; rfl, nbel_alloc _ _⟩
    | false =>
      have f3 : sget L s = none := by
        cases hl : sget L s with
        | none => rfl
        | some v => rw [hl] at f2; cases f2
      have HF : Hid (dB (Pg.NameOk s) = dB (Pg.Free s ∧ sget L s = none)) := dB_congr ⟨fun k => ⟨⟨k, fun q => by have := k1.2 q; cases this⟩, f3⟩, fun k => k.1.1⟩
      clear k1 f1 f2 f3
      go_enter Tryz.func107, Tryz.ntmps107
      go_wp2_with fail
      refine (isName_any s _ hs).mono ?_
      rintro e w1 ⟨rfl, hb⟩
      have HB : Hid (Below w.heap.size w w1) := (nbel_alloc _ _).trans (hb.mono (by simp))
      clear hb
      go_wp2_with fail
      go_ret
      exact ⟨by rw [← HF.out]; rfl, HB.out⟩
/-- A name is entered, or not. -/
def EntEnd (b2 : Nat) (L : SL) (s : ByteArray) (w : World) (e : Ending) (w' : World) : Prop :=
  (Pg.Free s ∧ sget L s = none ∧ e = .returned (.bool true) ∧ SMap b2 (L ++ [(s, .int .i64 (L.length : Nat))]) w' ∧ Only b2 w w') ∨ (¬ (Pg.Free s ∧ sget L s = none) ∧ e = .returned (.bool false) ∧ Below w.heap.size w w')
set_option maxRecDepth 100000 in
set_option maxHeartbeats 4000000 in
theorem enter_any (b1 b2 : Nat) (L : SL) (s : ByteArray) (w : World) (h1 : SMap b1 (Pg.kdL 7) w) (h2 : SMap b2 L w) (hs : s.size ≤ 9223372036854775807) :
    Calls Tryz.prog 87 #[rgV b1 b2, .string s] w fun e w' => EntEnd b2 L s w e w' := by
  have hm : s.size ≤ maxLen := by unfold maxLen; omega
  obtain ⟨W, hW⟩ : ∃ W, W = w.alloc (.cells #[.map (some b1), .map (some b2)] 129) := ⟨_, rfl⟩
  have hB : Below w.heap.size w W := by rw [hW]; exact nbel_alloc _ _
  have R0 : W.rowIs w.heap.size 129 2 (rowN [.map (some b1), .map (some b2)]) := by rw [hW]; exact rowN_alloc w _ _
  have H1 := Lib.hid (h1.below hB)
  have H2 := Lib.hid (h2.below hB)
  have HB := Lib.hid hB
  have HR := Lib.hid R0
  have HW := Lib.hid hW
  clear h1 h2 hB R0 hW
  go_enter Tryz.func87, Tryz.ntmps87
  go_wp2_with fail
  rw [← HW.out]
  refine (isFree_any b1 b2 L s _ H1.out H2.out hs).mono ?_
  rintro e w1 ⟨rfl, hb⟩
  have HB1 : Hid (Below w.heap.size w w1) := HB.out.trans (hb.mono HB.out.size)
  have M2 := H2.out.below hb
  obtain ⟨⟨c0, c1⟩, _⟩ := rowN2 (nrow_below HR.out hb)
  clear hb HB
  by_cases k : Pg.Free s ∧ sget L s = none
  · rw [dB_tt k]
    have hl := M2.len Tryz.underlying127
    obtain ⟨w2, r2, m2, o2⟩ := M2.put_new Tryz.underlying127 (s := s) hm k.2 (.int .i64 (L.length : Nat))
    have HK := Lib.hid k
    have HM := Lib.hid m2
    have HO : Hid (Only b2 w w2) := (Only.of_below HB1.out).trans o2
    clear k m2 o2 M2
    go_wp2_with fail
    go_ret
    exact Or.inl ⟨HK.out.1, HK.out.2, rfl, HM.out, HO.out⟩
  · rw [dB_ff k]
    have HK := Lib.hid k
    clear k M2
    go_wp2_with fail
    go_ret
    exact Or.inr ⟨HK.out, rfl, HB1.out⟩
end Go.Proofs.YtogfjomfhenhfaaGreatDoor
