/-
  Which nodes are loose: the program's walk.
-/
import Derived.Test.YtkaokfmaecdkiaaGreatDoorNtI1
import Derived.Deep.AppendLies
import Derived.Test.YtkaokfmaecdkiaaGreatDoorReg
namespace Go.Proofs.YtkaokfmaecdkiaaGreatDoor
open Go.RowKit Go.Deep

/-- A block of truths. -/
def BlRow (h : Nat → Bool) (j : Nat) : Value := .bool (h j)
def BlBlk (g N : Nat) (h : Nat → Bool) (w : World) : Prop := ∃ F, w.rowIs g 4 N F ∧ ∀ j, j < N → F j = BlRow h j
theorem BlBlk.lt {g N : Nat} {h : Nat → Bool} {w : World} (k : BlBlk g N h w) : g < w.heap.size := by obtain ⟨F, h1, _⟩ := k; exact h1.lt
theorem BlBlk.block {g N : Nat} {h : Nat → Bool} {w w' : World} (k : BlBlk g N h w) (e : w'.heap[g]? = w.heap[g]?) : BlBlk g N h w' := by obtain ⟨F, h1, h2⟩ := k; exact ⟨F, h1.of_block e, h2⟩
theorem BlBlk.below {g N : Nat} {h : Nat → Bool} {w w' : World} (k : BlBlk g N h w) (hb : Below w.heap.size w w') : BlBlk g N h w' := k.block (hb.block _ k.lt)
theorem BlBlk.cell {g N i : Nat} {h : Nat → Bool} {w : World} (k : BlBlk g N h w) (hi : i < N) : w.cell? ⟨g, i, none⟩ = some (.bool (h i)) := by
  obtain ⟨F, h1, h2⟩ := k
  rw [h1.cell (i := i) hi, h2 i hi]; rfl
theorem BlBlk.frozen {g N : Nat} {h : Nat → Bool} {w : World} (k : BlBlk g N h w) (i : Nat) : w.frozen? ⟨g, i, none⟩ = false := by obtain ⟨F, h1, _⟩ := k; exact h1.frozen i
theorem BlBlk.set {g N : Nat} {h : Nat → Bool} {w : World} (k : BlBlk g N h w) (i : Nat) (x : Bool) : BlBlk g N (Nt.updB h i x) (w.setCell ⟨g, i, none⟩ (.bool x)) := by
  obtain ⟨F, h1, h2⟩ := k
  refine ⟨_, h1.set i _, fun j hj => ?_⟩
  unfold BlRow Nt.updB
  by_cases e : j = i
  · subst e; simp
  · simp only [e, if_false]; exact h2 j hj
theorem nown_shape {B n size : Nat} {e : TypeId} {v : Value} {xs : List Value} {W : World} (h : W.ownsRow B e size v n xs) : ∃ a c, v = .slice a n c := by
  rcases h.2 with h | ⟨g, cp, _, e, _⟩
  · exact ⟨none, 0, by rw [h.1, h.2]⟩
  · exact ⟨_, _, e⟩
theorem nown_low {B B' n size : Nat} {e : TypeId} {v : Value} {xs : List Value} {W : World} (h : W.ownsRow B e size v n xs) (hb : B' ≤ B) : W.ownsRow B' e size v n xs := ⟨h.1, h.2.imp id (fun ⟨g, cap, cur, e1, e2, r⟩ => ⟨g, cap, cur, e1, Nat.le_trans hb e2, r⟩)⟩
theorem nown_block {B n size : Nat} {e : TypeId} {v : Value} {xs : List Value} {W W' : World} (h : W.ownsRow B e size v n xs) (hb : ∀ k, v.ownBlock = some k → W'.heap[k]? = W.heap[k]?) : W'.ownsRow B e size v n xs := ⟨h.1, h.2.imp id (fun ⟨g, cap, cur, e1, e2, e3, r⟩ => ⟨g, cap, cur, e1, e2, (hb g (by rw [e1]; rfl)).trans e3, r⟩)⟩
theorem nown_set {B n size : Nat} {e : TypeId} {v : Value} {xs : List Value} {W : World} (h : W.ownsRow B e size v n xs) {g : Nat} (hg : ∀ k, v.ownBlock = some k → k ≠ g) (i : Nat) (x : Value) : (W.setCell ⟨g, i, none⟩ x).ownsRow B e size v n xs := nown_block h (fun k hk => Below.heap_setCell _ _ _ _ (hg k hk))
/-- What stands while the nodes that are held are looked for. -/
structure HdS (n : Nt.Net) (la : Option Addr) (lk : Nat) (fa : Option Addr) (fk : Nat) (wa : Option Addr) (wk : Nat) (g : Nat) (h : Nat → Bool) (w W : World) : Prop where
  row : W.rowIs w.heap.size 27 4 (rowN (ntL n la lk fa fk wa wk))
  a0 : NtAt n la fa wa w
  old : Below w.heap.size w W
  b : BlBlk g (Nt.nn n) h W
  lo : w.heap.size < g
theorem HdS.at_ {n : Nt.Net} {la : Option Addr} {lk : Nat} {fa : Option Addr} {fk : Nat} {wa : Option Addr} {wk g : Nat} {h : Nat → Bool} {w W : World} (k : HdS n la lk fa fk wa wk g h w W) : NtAt n la fa wa W := k.a0.below k.old
theorem HdS.below {n : Nt.Net} {la : Option Addr} {lk : Nat} {fa : Option Addr} {fk : Nat} {wa : Option Addr} {wk g : Nat} {h : Nat → Bool} {w W W' : World} (k : HdS n la lk fa fk wa wk g h w W) (hb : Below W.heap.size W W') : HdS n la lk fa fk wa wk g h w W' := ⟨nrow_below k.row hb, k.a0, k.old.trans (hb.mono k.old.size), k.b.below hb, k.lo⟩
theorem HdS.alloc {n : Nt.Net} {la : Option Addr} {lk : Nat} {fa : Option Addr} {fk : Nat} {wa : Option Addr} {wk g : Nat} {h : Nat → Bool} {w W : World} (k : HdS n la lk fa fk wa wk g h w W) (o : Obj) : HdS n la lk fa fk wa wk g h w (W.alloc o) := k.below (nbel_alloc _ _)
theorem HdS.drew {n : Nt.Net} {la : Option Addr} {lk : Nat} {fa : Option Addr} {fk : Nat} {wa : Option Addr} {wk g : Nat} {h : Nat → Bool} {w W : World} (k : HdS n la lk fa fk wa wk g h w W) : HdS n la lk fa fk wa wk g h w W.drew := k.below (Below.refl _ _).drew
theorem HdS.set {n : Nt.Net} {la : Option Addr} {lk : Nat} {fa : Option Addr} {fk : Nat} {wa : Option Addr} {wk g : Nat} {h : Nat → Bool} {w W : World} (k : HdS n la lk fa fk wa wk g h w W) (i : Nat) (x : Bool) : HdS n la lk fa fk wa wk g (Nt.updB h i x) w (W.setCell ⟨g, i, none⟩ (.bool x)) :=
  have lo := k.lo
  ⟨nrow_set k.row (p := ⟨g, i, none⟩) (by show w.heap.size ≠ g; omega) _, k.a0, k.old.setCell (p := ⟨g, i, none⟩) (by show w.heap.size ≤ g; omega) _, k.b.set i x, k.lo⟩
theorem HdS.congr {n : Nt.Net} {la : Option Addr} {lk : Nat} {fa : Option Addr} {fk : Nat} {wa : Option Addr} {wk g : Nat} {h h' : Nat → Bool} {w W : World} (k : HdS n la lk fa fk wa wk g h w W) (e : h = h') : HdS n la lk fa fk wa wk g h' w W := e ▸ k
theorem updB_swap {h : Nat → Bool} {a b : Nat} (x : Bool) : Nt.updB (Nt.updB h b x) a x = Nt.updB (Nt.updB h a x) b x := by
  funext j
  unfold Nt.updB
  by_cases e1 : j = a <;> by_cases e2 : j = b <;> simp [e1, e2]
theorem ninfo_bool : (Tryz.prog.info? 4).map (fun i => (i.zero, i.size, i.bytes)) = some (some (.bool false), 1, 1) := by kernel_rfl
theorem ninfo_int : (Tryz.prog.info? 2).map (fun i => (i.zero, i.size, i.bytes)) = some (some (.int .i64 0), 1, 8) := by kernel_rfl
theorem nmk_bool (n : Nt.Net) (hr : Nt.Right n) (w : World) : (Instr.makeSlice 96 (.int .i64 n.nodes) (.int .i64 n.nodes)).run Tryz.prog w = .ok (.slice (some ⟨w.heap.size, 0, none⟩) (Nt.nn n) (Nt.nn n)) (w.alloc (.cells (madeCells #[.bool false] (Nt.nn n)) 4)) := by
  have h := hr.nn
  rw [h.1]
  exact run_make_row' (P := Tryz.prog) 96 4 (.bool false) 1 Tryz.underlying96 ninfo_bool rfl .i64 .i64 (Nt.nn n) (by omega) (by omega) w
/-- The cells of a list. -/
def isVs (l : List Int) : List Value := l.map (Value.int .i64)
theorem isVs_app (l : List Int) (x : Int) : isVs (l ++ [x]) = isVs l ++ [.int .i64 x] := by simp [isVs]

set_option maxRecDepth 100000 in
set_option maxHeartbeats 8000000 in
theorem looseNodes_any (n : Nt.Net) (la : Option Addr) (lk : Nat) (fa : Option Addr) (fk : Nat) (wa : Option Addr) (wk : Nat) (w : World) (h : NtAt n la fa wa w) (hr : Nt.Right n) :
    Calls Tryz.prog 62 #[ntV n la lk fa fk wa wk] w fun e w' => (∃ v, e = .returned v ∧ w'.ownsRow w.heap.size 2 1 v (Nt.loose n).length (isVs (Nt.loose n))) ∧ Below w.heap.size w w' := by
  obtain ⟨i1, hi1, hy0, hy1, hy2⟩ := info_parts ninfo_int
  have hmk := nmk_bool n hr
  have hfn := hr.fn
  have hln := hr.ln
  obtain ⟨hnn, hn1, hn2⟩ := hr.nn
  have HR := Lib.hid hr
  have HN := Lib.hid hnn
  have ST : Hid (HdS n la lk fa fk wa wk (w.heap.size + 1) (Nt.startH n 0) w ((w.alloc (.cells #[.int .i64 n.nodes, .slice la n.ln lk, .slice fa n.fn fk, .slice wa n.wn wk] 27)).alloc (.cells (madeCells #[.bool false] (Nt.nn n)) 4))) :=
    ⟨nrow_below (rowN_alloc w _ _) (nbel_alloc _ _), h, ((Below.refl _ _).alloc (Nat.le_refl _) _).alloc (by simp) _, ⟨_, by have := World.rowIs_made (w.alloc (.cells #[.int .i64 n.nodes, .slice la n.ln lk, .slice fa n.fn fk, .slice wa n.wn wk] 27)) (.bool false) (Nt.nn n) 4; rwa [World.size_alloc] at this, fun _ _ => rfl⟩, Nat.lt_succ_self _⟩
  clear h hr hnn
  go_enter Tryz.func62, Tryz.ntmps62
  go_wp2_with fail
  clear hmk
  go_loopw [18] (fun iv wr => ∃ (i : Nat), i ≤ n.fn ∧ iv = .int .i64 i ∧ Hid (HdS n la lk fa fk wa wk (w.heap.size + 1) (Nt.startH n i) w wr)) (fun iv _ => n.fn - (intOf iv).toNat)
  case atStart => exact ⟨0, Nat.zero_le _, rfl, ST⟩
  case round =>
    obtain ⟨i, hi, rfl, hS⟩ := hrel
    clear ST
    by_cases hlt : i < n.fn
    · have hltz : (i : Int) < (n.fn : Int) := by omega
      obtain ⟨b, e, c0, c1⟩ := hS.out.at_.f.at2 hlt
      obtain ⟨ef, hf⟩ := HR.out.fx hlt
      rw [ef] at c0
      subst e
      have zb : b < wr.heap.size := World.block_lt_of_cell? _ _ c0
      have y0 := hS.out.b.cell hf
      have z0 := hS.out.b.frozen (Nt.fx n i)
      have zg : w.heap.size + 1 < wr.heap.size := hS.out.b.lt
      have hfz : (Nt.fx n i : Int) < (Nt.nn n : Int) := by omega
      clear ef
      go_wp2_with fail
      go_roundw
      case rel => exact ⟨i + 1, by omega, by go_num, ((hS.out.set (Nt.fx n i) true).alloc _)⟩
      case measure => simp [intOf]; omega
    · obtain rfl : i = n.fn := by omega
      obtain ⟨⟨r0, r1, r2, r3⟩, _⟩ := rowN4 hS.out.row
      rw [HN.out] at r0
      go_wp2_with fail
      clear r0 r1 r2 r3
      go_loopw [29] (fun kv wr => ∃ (k : Nat), k ≤ Nt.nn n ∧ kv = .int .i64 k ∧ Hid (HdS n la lk fa fk wa wk (w.heap.size + 1) (Nt.roundsH n (Nt.startH n n.fn) k) w wr)) (fun kv _ => Nt.nn n - (intOf kv).toNat)
      case atStart => exact ⟨0, Nat.zero_le _, rfl, hS⟩
      case round =>
        obtain ⟨k, hk, rfl, hS⟩ := hrel
        by_cases hkt : k < Nt.nn n
        · have hktz : (k : Int) < (Nt.nn n : Int) := by omega
          obtain ⟨⟨r0, r1, r2, r3⟩, _⟩ := rowN4 hS.out.row
          go_wp2_with fail
          clear r0 r1 r2 r3
          go_loopw [34] (fun iv wr => ∃ (i : Nat), i ≤ n.ln ∧ iv = .int .i64 i ∧ Hid (HdS n la lk fa fk wa wk (w.heap.size + 1) (Nt.passH n (Nt.roundsH n (Nt.startH n n.fn) k) i) w wr)) (fun iv _ => n.ln - (intOf iv).toNat)
          case atStart => exact ⟨0, Nat.zero_le _, rfl, hS⟩
          case round =>
            obtain ⟨i, hi, rfl, hS⟩ := hrel
            by_cases hlt : i < n.ln
            · have hltz : (i : Int) < (n.ln : Int) := by omega
              obtain ⟨b, e, c0, c1, c2⟩ := hS.out.at_.l.at3 hlt
              obtain ⟨ef, hf⟩ := HR.out.fr hlt
              obtain ⟨et, ht⟩ := HR.out.tt hlt
              have hne := HR.out.frtt hlt
              rw [ef] at c0
              rw [et] at c1
              subst e
              have zb : b < wr.heap.size := World.block_lt_of_cell? _ _ c0
              have y0 := hS.out.b.cell hf
              have y1 := hS.out.b.cell ht
              have z0 := hS.out.b.frozen (Nt.fr n i)
              have z1 := hS.out.b.frozen (Nt.tt n i)
              have zg : w.heap.size + 1 < wr.heap.size := hS.out.b.lt
              have hfz : (Nt.fr n i : Int) < (Nt.nn n : Int) := by omega
              have htz : (Nt.tt n i : Int) < (Nt.nn n : Int) := by omega
              clear ef et
              obtain ⟨H, hH⟩ : ∃ H, H = Nt.passH n (Nt.roundsH n (Nt.startH n n.fn) k) i := ⟨_, rfl⟩
              have HH : Hid (H = Nt.passH n (Nt.roundsH n (Nt.startH n n.fn) k) i) := hH
              rw [← hH] at hS y0 y1
              clear hH
              have HX : Hid (∀ x : Bool, (H (Nt.fr n i) || H (Nt.tt n i)) = x → Nt.updB (Nt.updB H (Nt.fr n i) x) (Nt.tt n i) x = Nt.passH n (Nt.roundsH n (Nt.startH n n.fn) k) (i + 1)) := fun x hx => by
                rw [Nt.passH, ← HH.out, Nt.stepH, hx]
              cases ha : H (Nt.fr n i) with
              | true =>
                rw [ha] at y0
                have HX1 := Lib.hid (HX.out true (by rw [ha]; rfl))
                clear HX ha
                go_wp2_with fail
                go_region
                all_goals (go_wp2_with fail; go_roundw)
                all_goals first
                  | exact ⟨i + 1, by omega, by go_num, HdS.congr ((((hS.out.set (Nt.fr n i) true).set (Nt.tt n i) true).alloc _).drew) HX1.out⟩
                  | exact ⟨i + 1, by omega, by go_num, HdS.congr ((((hS.out.set (Nt.tt n i) true).set (Nt.fr n i) true).alloc _).drew) ((updB_swap _).trans HX1.out)⟩
                  | (simp [intOf]; omega)
              | false =>
                rw [ha] at y0
                cases hb : H (Nt.tt n i) with
                | true =>
                  rw [hb] at y1
                  have HX1 := Lib.hid (HX.out true (by rw [ha, hb]; rfl))
                  clear HX ha hb
                  go_wp2_with fail
                  go_region
                  all_goals (go_wp2_with fail; go_roundw)
                  all_goals first
                    | exact ⟨i + 1, by omega, by go_num, HdS.congr ((((hS.out.set (Nt.fr n i) true).set (Nt.tt n i) true).alloc _).drew) HX1.out⟩
                    | exact ⟨i + 1, by omega, by go_num, HdS.congr ((((hS.out.set (Nt.tt n i) true).set (Nt.fr n i) true).alloc _).drew) ((updB_swap _).trans HX1.out)⟩
                    | (simp [intOf]; omega)
                | false =>
                  rw [hb] at y1
                  have HX1 := Lib.hid (HX.out false (by rw [ha, hb]; rfl))
                  clear HX ha hb
                  go_wp2_with fail
                  go_region
                  all_goals (go_wp2_with fail; go_roundw)
                  all_goals first
                    | exact ⟨i + 1, by omega, by go_num, HdS.congr ((((hS.out.set (Nt.fr n i) false).set (Nt.tt n i) false).alloc _).drew) HX1.out⟩
                    | exact ⟨i + 1, by omega, by go_num, HdS.congr ((((hS.out.set (Nt.tt n i) false).set (Nt.fr n i) false).alloc _).drew) ((updB_swap _).trans HX1.out)⟩
                    | (simp [intOf]; omega)
            · obtain rfl : i = n.ln := by omega
              go_wp2_with fail
              go_roundw
              case rel => exact ⟨k + 1, by omega, by go_num, hS⟩
              case measure => simp [intOf]; omega
        · obtain rfl : k = Nt.nn n := by omega
          go_wp2_with fail
          have zg : w.heap.size + 1 < wr.heap.size := hS.out.b.lt
          go_loopw [9, 64] (fun ov iv wr => ∃ (i : Nat), i ≤ Nt.nn n ∧ iv = .int .i64 i ∧ Hid (wr.ownsRow (w.heap.size + 2) 2 1 ov (Nt.looseTo n i).length (isVs (Nt.looseTo n i))) ∧ Hid (BlBlk (w.heap.size + 1) (Nt.nn n) (Nt.held n) wr) ∧ Hid (Below w.heap.size w wr)) (fun _ iv _ => Nt.nn n - (intOf iv).toNat)
          case atStart => exact ⟨0, Nat.zero_le _, rfl, Lib.hid (World.ownsRow_nil _ _ _ _), hS.out.b, hS.out.old⟩
          case round =>
            obtain ⟨i, hi, rfl, hO, hL, hB⟩ := hrel
            obtain ⟨av, cv, rfl⟩ := nown_shape hO.out
            clear hS zg
            by_cases hlt : i < Nt.nn n
            · have hltz : (i : Int) < (Nt.nn n : Int) := by omega
              have hlen := Nt.looseTo_len n i
              have y0 := hL.out.cell hlt
              have zg : w.heap.size + 1 < wr.heap.size := hL.out.lt
              cases hh : Nt.held n i with
              | true =>
                rw [hh] at y0
                have HA := Lib.hid (Nt.looseTo_yes hh)
                clear hh
                go_wp2_with fail
                go_roundw
                case rel => exact ⟨i + 1, by omega, by go_num, Lib.hid (by rw [HA.out]; exact hO.out), hL, hB⟩
                case measure => simp [intOf]; omega
              | false =>
                rw [hh] at y0
                have HA := Lib.hid (Nt.looseTo_no hh)
                clear hh
                go_wp2_with (at_builtin; refine wpList_append_lies _ rfl _ _ 25 rfl (w.heap.size + 2) 2 i1 (.int .i64 0) 1 8 Tryz.underlying25 hi1 hy0 hy1 hy2 rfl (by decide) _ _ _ rfl (hO.out.alloc _) ⟨wr.heap.size, 0, none⟩ 1 1 [.int .i64 (i : Int)] rfl rfl ?a1 ?a2 ?a3 ?a4 ?a5 ?a6 (wr.heap.size + 1) ?a7 ?_)
                try (case a1 => (intro j u hj; match j, hj with
                  | 0, hj => (simp at hj; subst hj; simp [Addr.add])))
                try (case a2 => first | rfl | (intro u hu; simp at hu; subst hu; rfl))
                try (case a3 => omega)
                try (case a4 => (unfold maxLen; omega))
                try (case a5 => omega)
                try (case a6 => first | omega | (simp; omega))
                try (case a7 => simp)
                intro g cap W3 hown hgrow hat hlt3
                have HO3 : Hid (W3.ownsRow (w.heap.size + 2) 2 1 (.slice (some ⟨g, 0, none⟩) ((Nt.looseTo n i).length + 1) cap) (Nt.looseTo n (i + 1)).length (isVs (Nt.looseTo n (i + 1)))) := Lib.hid (by
                  rw [HA.out, isVs_app]; simpa using hown)
                have HB2 : Hid (Below (w.heap.size + 2) wr W3) := ((Below.refl _ _).alloc (by omega) _).grown hgrow (by simp; omega) (fun k hk => (hO.out.lt k hk).1)
                have HB3 : Hid (Below w.heap.size w W3) := hB.out.trans (HB2.out.mono (by omega))
                have HL3 : Hid (BlBlk (w.heap.size + 1) (Nt.nn n) (Nt.held n) W3) := hL.out.block (HB2.out.block _ (by omega))
                clear hown hgrow hat hlt3 hO hB hL HA HB2
                go_wp2_with fail
                go_roundw
                case rel => exact ⟨i + 1, by omega, by go_num, HO3, HL3, HB3⟩
                case measure => simp [intOf]; omega
            · obtain rfl : i = Nt.nn n := by omega
              go_wp2_with fail
              go_ret
              exact ⟨⟨_, rfl, nown_low hO.out (by omega)⟩, hB.out⟩
end Go.Proofs.YtkaokfmaecdkiaaGreatDoor
