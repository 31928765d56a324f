/-
  Which nodes are loose: the model's walk, and both answers.
-/
import Derived.Test.YtkaokfmaecdkiaaGreatDoorNtLs
import Derived.Test.YtkaokfmaecdkiaaGreatDoorNtS1
namespace Go.Proofs.YtkaokfmaecdkiaaGreatDoor
open Go.RowKit Go.Deep

theorem nown1 {g a b k : Nat} (h : (Value.slice (some ⟨g, 0, none⟩) a b).ownBlock = some k) : k = g := by cases h; rfl
/-- A list that an answer is: its own memory, or none. -/
def LsOwn (T : TypeId) (s B N : Nat) (a : Option Addr) (c : Nat) (f : Nat → Int) (W : World) : Prop := (a = none ∧ N = 0 ∧ c = 0) ∨ ∃ g, a = some ⟨g, 0, none⟩ ∧ B ≤ g ∧ IsBlk T g (N * s) f W
theorem LsOwn.same {T : TypeId} {s B N c : Nat} {a : Option Addr} {f : Nat → Int} {W W' : World} (h : LsOwn T s B N a c f W) (hb : ∀ k, B ≤ k → k < W.heap.size → W'.heap[k]? = W.heap[k]?) : LsOwn T s B N a c f W' := by
  rcases h with h | ⟨g, e, h1, h2⟩
  · exact Or.inl h
  · exact Or.inr ⟨g, e, h1, h2.block (hb g h1 h2.lt)⟩
theorem LsOwn.below {T : TypeId} {s B N c : Nat} {a : Option Addr} {f : Nat → Int} {W W' : World} (h : LsOwn T s B N a c f W) (hb : Below W.heap.size W W') : LsOwn T s B N a c f W' := h.same (fun k _ hk => hb.block k hk)
theorem LsOwn.at_ {T : TypeId} {s B N c : Nat} {a : Option Addr} {f : Nat → Int} {W : World} (h : LsOwn T s B N a c f W) : IsAt a (N * s) f W := by
  rcases h with h | ⟨g, e, h1, h2⟩
  · exact Or.inl (by rw [h.2.1]; simp)
  · rw [e]; exact h2.at_
theorem LsOwn.low {T : TypeId} {s B B' N c : Nat} {a : Option Addr} {f : Nat → Int} {W : World} (h : LsOwn T s B N a c f W) (hb : B' ≤ B) : LsOwn T s B' N a c f W := by
  rcases h with h | ⟨g, e, h1, h2⟩
  · exact Or.inl h
  · exact Or.inr ⟨g, e, Nat.le_trans hb h1, h2⟩
theorem LsOwn.lt {T : TypeId} {s B N c : Nat} {a : Option Addr} {f : Nat → Int} {W : World} (h : LsOwn T s B N a c f W) {k : Nat} (e : a = some ⟨k, 0, none⟩) : B ≤ k ∧ k < W.heap.size := by
  rcases h with h | ⟨g, e', h1, h2⟩
  · rw [h.1] at e; cases e
  · rw [e'] at e; cases e; exact ⟨h1, h2.lt⟩
def ils (l : List Int) (j : Nat) : Int := l.getD j 0
theorem ls_own {B : Nat} {v : Value} {l : List Int} {W : World} (h : W.ownsRow B 2 1 v l.length (isVs l)) : ∃ a c, v = .slice a l.length c ∧ LsOwn 2 1 B l.length a c (ils l) W := by
  rcases h.2 with h2 | ⟨g, cap, cur, e1, e2, e3, e4, e5, e6, e7⟩
  · exact ⟨none, 0, by rw [h2.1, h2.2], Or.inl ⟨rfl, h2.2, rfl⟩⟩
  · refine ⟨_, _, e1, Or.inr ⟨g, rfl, e2, cap, fun i => cur[i]?.getD undef, by omega, ⟨cur, e3, by simpa using e6, fun i hi => ?_⟩, fun j hj => ?_⟩⟩
    · show cur[i]? = some (cur[i]?.getD undef)
      rw [Array.getElem?_eq_getElem (by omega)]
      rfl
    · have h1 : (cur.toList.take (l.length * 1))[j]? = (isVs l)[j]? := by rw [e7]
      rw [List.getElem?_take, if_pos (by omega), Array.getElem?_toList] at h1
      show cur[j]?.getD undef = _
      rw [h1]
      unfold isVs ils
      have hj' : j < l.length := by omega
      simp [hj']

set_option maxRecDepth 100000 in
set_option maxHeartbeats 8000000 in
theorem specLoose_go (n : Nt.Net) (la : Option Addr) (lk : Nat) (fa : Option Addr) (fk : Nat) (wa : Option Addr) (wk : Nat) (w : World) (h : NtAt n la fa wa w) (hs : NtSmall n) (hr : Nt.Right n) :
    Calls Tryz.prog 22 #[ntV n la lk fa fk wa wk] w fun e w' => (∃ v, e = .returned v ∧ w'.ownsRow w.heap.size 2 1 v (Nt.loose n).length (isVs (Nt.loose n))) ∧ Below w.heap.size w w' := by
  obtain ⟨i1, hi1, hy0, hy1, hy2⟩ := info_parts ninfo_int
  have hmk := nmk_bool n hr
  have hfn := hr.fn
  have hln := hr.ln
  obtain ⟨hnn, hn1, hn2⟩ := hr.nn
  have HR := Lib.hid hr
  have HN := Lib.hid hnn
  have HSM := Lib.hid hs
  have HA0 := Lib.hid h
  obtain ⟨W, hW⟩ : ∃ W, W = (w.alloc (.cells #[.int .i64 n.nodes, .slice la n.ln lk, .slice fa n.fn fk, .slice wa n.wn wk] 27)).alloc (.cells #[] 2) := ⟨_, rfl⟩
  have R0 : Hid (W.rowIs w.heap.size 27 4 (rowN (ntL n la lk fa fk wa wk))) := by rw [hW]; exact nrow_below (rowN_alloc w _ _) (nbel_alloc _ _)
  have B0 : Hid (Below w.heap.size w W) := by rw [hW]; exact ((Below.refl _ _).alloc (Nat.le_refl _) _).alloc (by simp) _
  have O0 : Hid (W.ownsRow w.heap.size 2 1 (.slice (some ⟨w.heap.size + 1, 0, none⟩) 0 0) 0 []) := by
    rw [hW]
    have := World.ownsRow_made (e := 2) (size := 1) (base := w.heap.size) (w.alloc (.cells #[.int .i64 n.nodes, .slice la n.ln lk, .slice fa n.fn fk, .slice wa n.wn wk] 27)) #[] 0 (by simp) (Nat.zero_le _) rfl
    rwa [World.size_alloc] at this
  have HW := Lib.hid hW
  clear h hr hnn hs hW
  go_enter Tryz.func22, Tryz.ntmps22
  go_wp2_with fail
  rw [← HW.out]
  refine (specNet_any n la lk fa fk wa wk _ (HA0.out.below B0.out) HSM.out).mono ?_
  rintro e w1 ⟨⟨b1, rfl, hb1⟩, hb⟩
  obtain rfl : b1 = true := hb1.2 HR.out
  obtain ⟨⟨r0, r1, r2, r3⟩, _⟩ := rowN4 (nrow_below R0.out hb)
  have S1 : Hid (HdS n la lk fa fk wa wk w1.heap.size (Nt.startH n 0) w (w1.alloc (.cells (madeCells #[.bool false] (Nt.nn n)) 4))) :=
    ⟨nrow_below (nrow_below R0.out hb) (nbel_alloc _ _), HA0.out, (B0.out.trans (hb.mono B0.out.size)).alloc (by have := B0.out.size; have := hb.size; omega) _, ⟨_, World.rowIs_made w1 (.bool false) (Nt.nn n) 4, fun _ _ => rfl⟩, by have := (nrow_below R0.out hb).lt; omega⟩
  have G1 : Hid (w.heap.size + 1 < w1.heap.size) := by
    have h2 := hb.size
    rw [HW.out] at h2
    simp at h2
    show _ < _
    omega
  have O1 : Hid (w1.ownsRow w.heap.size 2 1 (.slice (some ⟨w.heap.size + 1, 0, none⟩) 0 0) 0 []) := nown_block O0.out (fun k hk => hb.block k (O0.out.lt k hk).2)
  clear hb hb1 R0 B0 O0
  go_wp2_with fail
  clear hmk r0 r1 r2 r3
  generalize w1.heap.size = G at *
  go_loopw [5] (fun iv wr => ∃ (i : Nat), i ≤ n.fn ∧ iv = .int .i64 i ∧ Hid (HdS n la lk fa fk wa wk G (Nt.startH n i) w wr) ∧ Hid (wr.ownsRow w.heap.size 2 1 (.slice (some ⟨w.heap.size + 1, 0, none⟩) 0 0) 0 [])) (fun iv _ => n.fn - (intOf iv).toNat)
  case atStart => exact ⟨0, Nat.zero_le _, rfl, S1, O1.out.alloc _⟩
  case round =>
    obtain ⟨i, hi, rfl, hS, hO⟩ := hrel
    clear S1 O1
    obtain ⟨⟨r0, r1, r2, r3⟩, _⟩ := rowN4 hS.out.row
    have hG := G1.out
    by_cases hlt : i < n.fn
    · have hltz : (i : Int) < (n.fn : Int) := by omega
      obtain ⟨b, e, c0, c1⟩ := hS.out.at_.f.at2 hlt
      obtain ⟨ef, hf⟩ := HR.out.fx hlt
      rw [ef] at c0
      subst e
      have y0 := hS.out.b.cell hf
      have z0 := hS.out.b.frozen (Nt.fx n i)
      have zg : G < wr.heap.size := hS.out.b.lt
      have hfz : (Nt.fx n i : Int) < (Nt.nn n : Int) := by omega
      clear ef
      go_wp2_with fail
      go_roundw
      case rel => exact ⟨i + 1, by omega, by go_num, hS.out.set (Nt.fx n i) true, nown_set hO.out (fun k hk => by have := nown1 hk; omega) _ _⟩
      case measure => simp [intOf]; omega
    · obtain rfl : i = n.fn := by omega
      rw [HN.out] at r0
      go_wp2_with fail
      clear r0 r1 r2 r3
      go_loopw [6] (fun kv wr => ∃ (k : Nat), k ≤ Nt.nn n ∧ kv = .int .i64 k ∧ Hid (HdS n la lk fa fk wa wk G (Nt.roundsH n (Nt.startH n n.fn) k) w wr) ∧ Hid (wr.ownsRow w.heap.size 2 1 (.slice (some ⟨w.heap.size + 1, 0, none⟩) 0 0) 0 [])) (fun kv _ => Nt.nn n - (intOf kv).toNat)
      case atStart => exact ⟨0, Nat.zero_le _, rfl, hS, hO⟩
      case round =>
        obtain ⟨k, hk, rfl, hS, hO⟩ := hrel
        obtain ⟨⟨r0, r1, r2, r3⟩, _⟩ := rowN4 hS.out.row
        rw [HN.out] at r0
        by_cases hkt : k < Nt.nn n
        · have hktz : (k : Int) < (Nt.nn n : Int) := by omega
          go_wp2_with fail
          clear r0 r1 r2 r3
          go_loopw [7] (fun iv wr => ∃ (i : Nat), i ≤ n.ln ∧ iv = .int .i64 i ∧ Hid (HdS n la lk fa fk wa wk G (Nt.passH n (Nt.roundsH n (Nt.startH n n.fn) k) i) w wr) ∧ Hid (wr.ownsRow w.heap.size 2 1 (.slice (some ⟨w.heap.size + 1, 0, none⟩) 0 0) 0 [])) (fun iv _ => n.ln - (intOf iv).toNat)
          case atStart => exact ⟨0, Nat.zero_le _, rfl, hS, hO⟩
          case round =>
            obtain ⟨i, hi, rfl, hS, hO⟩ := hrel
            obtain ⟨⟨r0, r1, r2, r3⟩, _⟩ := rowN4 hS.out.row
            by_cases hlt : i < n.ln
            · have hltz : (i : Int) < (n.ln : Int) := by omega
              obtain ⟨b, e, c0, c1, c2⟩ := hS.out.at_.l.at3 hlt
              obtain ⟨ef, hf⟩ := HR.out.fr hlt
              obtain ⟨et, ht⟩ := HR.out.tt hlt
              have hne := HR.out.frtt hlt
              rw [ef] at c0
              rw [et] at c1
              subst e
              have zb : b < wr.heap.size := World.block_lt_of_cell? _ _ c0
              have y0 := hS.out.b.cell hf
              have y1 := hS.out.b.cell ht
              have z0 := hS.out.b.frozen (Nt.fr n i)
              have z1 := hS.out.b.frozen (Nt.tt n i)
              have zg : G < wr.heap.size := hS.out.b.lt
              have hfz : (Nt.fr n i : Int) < (Nt.nn n : Int) := by omega
              have htz : (Nt.tt n i : Int) < (Nt.nn n : Int) := by omega
              clear ef et
              obtain ⟨H, hH⟩ : ∃ H, H = Nt.passH n (Nt.roundsH n (Nt.startH n n.fn) k) i := ⟨_, rfl⟩
              have HH : Hid (H = Nt.passH n (Nt.roundsH n (Nt.startH n n.fn) k) i) := hH
              rw [← hH] at hS y0 y1
              clear hH
              have HX : Hid (∀ x : Bool, (H (Nt.fr n i) || H (Nt.tt n i)) = x → Nt.updB (Nt.updB H (Nt.fr n i) x) (Nt.tt n i) x = Nt.passH n (Nt.roundsH n (Nt.startH n n.fn) k) (i + 1)) := fun x hx => by
                rw [Nt.passH, ← HH.out, Nt.stepH, hx]
              have HF : Hid ((H (Nt.fr n i) || H (Nt.tt n i)) = false → H = Nt.passH n (Nt.roundsH n (Nt.startH n n.fn) k) (i + 1)) := fun hx => by
                rw [Nt.passH, ← HH.out]; exact Nt.stepH_false hx
              cases ha : H (Nt.fr n i) with
              | true =>
                rw [ha] at y0
                have HX1 := Lib.hid (HX.out true (by rw [ha]; rfl))
                clear HX HF ha
                go_wp2_with fail
                go_roundw
                case rel => exact ⟨i + 1, by omega, by go_num, HdS.congr (((hS.out.set (Nt.fr n i) true).set (Nt.tt n i) true).alloc _) HX1.out, (nown_set (nown_set hO.out (fun k hk => by have := nown1 hk; omega) _ _) (fun k hk => by have := nown1 hk; omega) _ _).alloc _⟩
                case measure => simp [intOf]; omega
              | false =>
                rw [ha] at y0
                cases hb : H (Nt.tt n i) with
                | true =>
                  rw [hb] at y1
                  have HX1 := Lib.hid (HX.out true (by rw [ha, hb]; rfl))
                  clear HX HF ha hb
                  go_wp2_with fail
                  go_roundw
                  case rel => exact ⟨i + 1, by omega, by go_num, HdS.congr (((hS.out.set (Nt.fr n i) true).set (Nt.tt n i) true).alloc _) HX1.out, (nown_set (nown_set hO.out (fun k hk => by have := nown1 hk; omega) _ _) (fun k hk => by have := nown1 hk; omega) _ _).alloc _⟩
                  case measure => simp [intOf]; omega
                | false =>
                  rw [hb] at y1
                  have HX1 := Lib.hid (HF.out (by rw [ha, hb]; rfl))
                  clear HX HF ha hb
                  go_wp2_with fail
                  go_roundw
                  case rel => exact ⟨i + 1, by omega, by go_num, HdS.congr (hS.out.alloc _) HX1.out, hO.out.alloc _⟩
                  case measure => simp [intOf]; omega
            · obtain rfl : i = n.ln := by omega
              go_wp2_with fail
              go_roundw
              case rel => exact ⟨k + 1, by omega, by go_num, hS, hO⟩
              case measure => simp [intOf]; omega
        · obtain rfl : k = Nt.nn n := by omega
          go_wp2_with fail
          clear r0 r1 r2 r3
          go_loopw [3, 9] (fun ov iv wr => ∃ (i : Nat), i ≤ Nt.nn n ∧ iv = .int .i64 i ∧ Hid (wr.ownsRow w.heap.size 2 1 ov (Nt.looseTo n i).length (isVs (Nt.looseTo n i))) ∧ Hid (∀ k, ov.ownBlock = some k → k ≠ G ∧ w.heap.size < k) ∧ Hid (BlBlk G (Nt.nn n) (Nt.held n) wr) ∧ Hid (Below w.heap.size w wr) ∧ Hid (wr.rowIs w.heap.size 27 4 (rowN (ntL n la lk fa fk wa wk)))) (fun _ iv _ => Nt.nn n - (intOf iv).toNat)
          case atStart => exact ⟨0, Nat.zero_le _, rfl, hO, (fun k hk => by have := nown1 hk; omega), hS.out.b, hS.out.old, hS.out.row⟩
          case round =>
            obtain ⟨i, hi, rfl, hO, hE, hL, hB, hR⟩ := hrel
            obtain ⟨av, cv, rfl⟩ := nown_shape hO.out
            clear hS
            obtain ⟨⟨r0, r1, r2, r3⟩, _⟩ := rowN4 hR.out
            rw [HN.out] at r0
            have zg : G < wr.heap.size := hL.out.lt
            by_cases hlt : i < Nt.nn n
            · have hltz : (i : Int) < (Nt.nn n : Int) := by omega
              have hlen := Nt.looseTo_len n i
              have y0 := hL.out.cell hlt
              cases hh : Nt.held n i with
              | true =>
                rw [hh] at y0
                have HA := Lib.hid (Nt.looseTo_yes hh)
                clear hh
                go_wp2_with fail
                go_roundw
                case rel => exact ⟨i + 1, by omega, by go_num, Lib.hid (by rw [HA.out]; exact hO.out), hE, hL, hB, hR⟩
                case measure => simp [intOf]; omega
              | false =>
                rw [hh] at y0
                have HA := Lib.hid (Nt.looseTo_no hh)
                clear hh
                go_wp2_with (at_builtin; refine wpList_append_lies _ rfl _ _ 25 rfl w.heap.size 2 i1 (.int .i64 0) 1 8 Tryz.underlying25 hi1 hy0 hy1 hy2 rfl (by decide) _ _ _ rfl (hO.out.alloc _) ⟨wr.heap.size, 0, none⟩ 1 1 [.int .i64 (i : Int)] rfl rfl ?a1 ?a2 ?a3 ?a4 ?a5 ?a6 (wr.heap.size + 1) ?a7 ?_)
                try (case a1 => (intro j u hj; match j, hj with
                  | 0, hj => (simp at hj; subst hj; simp [Addr.add])))
                try (case a2 => first | rfl | (intro u hu; simp at hu; subst hu; rfl))
                try (case a3 => omega)
                try (case a4 => (unfold maxLen; omega))
                try (case a5 => omega)
                try (case a6 => first | omega | (simp; omega))
                try (case a7 => simp)
                intro g cap W3 hown hgrow hat hlt3
                have HO3 : Hid (W3.ownsRow w.heap.size 2 1 (.slice (some ⟨g, 0, none⟩) ((Nt.looseTo n i).length + 1) cap) (Nt.looseTo n (i + 1)).length (isVs (Nt.looseTo n (i + 1)))) := Lib.hid (by
                  rw [HA.out, isVs_app]; simpa using hown)
                have HE3 : Hid (∀ k, (Value.slice (some ⟨g, 0, none⟩) ((Nt.looseTo n i).length + 1) cap).ownBlock = some k → k ≠ G ∧ w.heap.size < k) := fun k hk => by
                  obtain rfl := nown1 hk
                  rcases hat with hat | hat
                  · exact hE.out _ hat
                  · omega
                have BG : W3.heap[G]? = wr.heap[G]? := (hgrow.block G (by simp; omega) (fun e => (hE.out G e.symm).1 rfl)).trans (Below.heap_alloc _ _ _ zg)
                have BW : W3.heap[w.heap.size]? = wr.heap[w.heap.size]? := (hgrow.block _ (by simp; omega) (fun e => by have := (hE.out _ e.symm).2; omega)).trans (Below.heap_alloc _ _ _ (by omega))
                have HB3 : Hid (Below w.heap.size w W3) := (hB.out.alloc hB.out.size _).grown hgrow (by simp; omega) (fun k hk => (hO.out.lt k hk).1)
                have HL3 : Hid (BlBlk G (Nt.nn n) (Nt.held n) W3) := hL.out.block BG
                have HR3 : Hid (W3.rowIs w.heap.size 27 4 (rowN (ntL n la lk fa fk wa wk))) := hR.out.of_block BW
                clear hown hgrow hat hlt3 hO hB hL HA hE hR BG BW r0 r1 r2 r3
                go_wp2_with fail
                go_roundw
                case rel => exact ⟨i + 1, by omega, by go_num, HO3, HE3, HL3, HB3, HR3⟩
                case measure => simp [intOf]; omega
            · obtain rfl : i = Nt.nn n := by omega
              go_wp2_with fail
              go_ret
              exact ⟨⟨_, rfl, hO.out⟩, hB.out⟩
set_option maxRecDepth 100000 in
set_option maxHeartbeats 4000000 in
theorem specLoose_no (n : Nt.Net) (la : Option Addr) (lk : Nat) (fa : Option Addr) (fk : Nat) (wa : Option Addr) (wk : Nat) (w : World) (h : NtAt n la fa wa w) (hs : NtSmall n) (hr : ¬ Nt.Right n) :
    Calls Tryz.prog 22 #[ntV n la lk fa fk wa wk] w fun e w' => (∃ v, e = .returned v ∧ w'.ownsRow w.heap.size 2 1 v 0 []) ∧ Below w.heap.size w w' := by
  have HR := Lib.hid hr
  have HSM := Lib.hid hs
  have HA0 := Lib.hid h
  obtain ⟨W, hW⟩ : ∃ W, W = (w.alloc (.cells #[.int .i64 n.nodes, .slice la n.ln lk, .slice fa n.fn fk, .slice wa n.wn wk] 27)).alloc (.cells #[] 2) := ⟨_, rfl⟩
  have B0 : Hid (Below w.heap.size w W) := by rw [hW]; exact ((Below.refl _ _).alloc (Nat.le_refl _) _).alloc (by simp) _
  have O0 : Hid (W.ownsRow w.heap.size 2 1 (.slice (some ⟨w.heap.size + 1, 0, none⟩) 0 0) 0 []) := by
    rw [hW]
    have := World.ownsRow_made (e := 2) (size := 1) (base := w.heap.size) (w.alloc (.cells #[.int .i64 n.nodes, .slice la n.ln lk, .slice fa n.fn fk, .slice wa n.wn wk] 27)) #[] 0 (by simp) (Nat.zero_le _) rfl
    rwa [World.size_alloc] at this
  have HW := Lib.hid hW
  clear h hr hs hW
  go_enter Tryz.func22, Tryz.ntmps22
  go_wp2_with fail
  rw [← HW.out]
  refine (specNet_any n la lk fa fk wa wk _ (HA0.out.below B0.out) HSM.out).mono ?_
  rintro e w1 ⟨⟨b1, rfl, hb1⟩, hb⟩
  obtain rfl : b1 = false := by
    cases b1 with
    | false => rfl
    | true => exact absurd (hb1.1 rfl) HR.out
  have O1 : Hid (w1.ownsRow w.heap.size 2 1 (.slice (some ⟨w.heap.size + 1, 0, none⟩) 0 0) 0 []) := nown_block O0.out (fun k hk => hb.block k (O0.out.lt k hk).2)
  have B1 : Hid (Below w.heap.size w w1) := B0.out.trans (hb.mono B0.out.size)
  clear hb hb1 B0 O0
  go_wp2_with fail
  go_ret
  exact ⟨⟨_, rfl, O1.out⟩, B1.out⟩
end Go.Proofs.YtkaokfmaecdkiaaGreatDoor
