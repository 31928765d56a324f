/-
  The draw of an alarm and of its acts.
-/
import Derived.Test.YtmejmpdljckfgaaDoorSource
import Derived.Test.YtmejmpdljckfgaaDoorAlMem
import Derived.Test.YtmejmpdljckfgaaDoorLnMem
import Derived.Test.YtmejmpdljckfgaaDoorReg
import Derived.Test.YtmejmpdljckfgaaDoorRegL
namespace Go.Proofs.YtmejmpdljckfgaaDoor
open Go Go.RowKit Go.Deep

theorem alsrc_keep {sb : Nat} {w w' : World} (h : Src sb w) (hb : ∀ k, k ≤ sb → w'.heap[k]? = w.heap[k]?) : Src sb w' := by
  obtain ⟨a, len, cap, at_, mix, size, ⟨c0, c1, c2, c3, f0, f1, f2, f3⟩, h1, h2, h3, h4, h5, h6⟩ := h
  have ce : ∀ o, w'.cell? ⟨sb, o, none⟩ = w.cell? ⟨sb, o, none⟩ := fun o => World.cell?_of_block (hb sb (Nat.le_refl _))
  have fe : ∀ o, w'.frozen? ⟨sb, o, none⟩ = w.frozen? ⟨sb, o, none⟩ := fun o => World.frozen?_of_block (hb sb (Nat.le_refl _))
  refine ⟨a, len, cap, at_, mix, size, ⟨(ce 0).trans c0, (ce 1).trans c1, (ce 2).trans c2, (ce 3).trans c3, (fe 0).trans f0, (fe 1).trans f1, (fe 2).trans f2, (fe 3).trans f3⟩, h1, h2, h3, h4, h5, fun i hi => ?_⟩
  obtain ⟨cb, co, z, e, hne, hc, z0, z1⟩ := h6 i hi
  exact ⟨cb, co, z, e, hne, (World.cell?_of_block (a := ⟨cb, co + i, none⟩) (hb cb (by omega))).trans hc, z0, z1⟩
theorem aldrew_set {sb g i : Nat} {w V : World} {v : Value} (h : Drew sb w V) (h1 : sb < w.heap.size) (h2 : w.heap.size ≤ g) : Drew sb w (V.setCell ⟨g, i, none⟩ v) := by
  have hk : ∀ k, k ≠ g → (V.setCell ⟨g, i, none⟩ v).heap[k]? = V.heap[k]? := fun k hk => Below.heap_setCell _ _ _ _ hk
  exact ⟨alsrc_keep h.1 (fun k hk2 => hk k (by omega)), ⟨h.2.1, h.2.2.1, h.2.2.2.1, by have := h.2.2.2.2.1; simpa using this, fun k hk2 hn => (hk k (by omega)).trans (h.2.2.2.2.2 k hk2 hn)⟩⟩
theorem aldrew_bel {sb : Nat} {w V V' : World} (h : Drew sb w V) (hb : Below V.heap.size V V') : Drew sb w V' := ⟨h.1.below hb, h.2.trans (Chg.of_below hb)⟩
theorem aldrew_more {sb : Nat} {w V V' : World} (h : Drew sb w V) (hd : Drew sb V V') : Drew sb w V' := ⟨hd.1, h.2.trans hd.2⟩
/-- What stands while an alarm (or anything that lies in so many cells of its own) is drawn. -/
structure DaS (T : TypeId) (w : World) (sb r g : Nat) (z l : List Value) (V : World) : Prop where
  row : V.rowIs g T l.length (rowN l)
  res : V.rowIs r T z.length (rowN z)
  src : Drew sb w V
  lo : sb < w.heap.size ∧ w.heap.size ≤ r ∧ r < g
section
variable {T : TypeId} {w : World} {sb r g : Nat} {z l : List Value} {V V' : World}
theorem DaS.draw (h : DaS T w sb r g z l V) (hd : Drew sb V V') : DaS T w sb r g z l V' := by
  have lo := h.lo
  exact ⟨h.row.of_block (hd.2.2.2.2.2 g h.row.lt (by omega)), h.res.of_block (hd.2.2.2.2.2 r h.res.lt (by omega)), aldrew_more h.src hd, lo⟩
theorem DaS.set (h : DaS T w sb r g z l V) (i : Nat) (x : Value) (hi : i < l.length) : DaS T w sb r g z (l.set i x) (V.setCell ⟨g, i, none⟩ x) := by
  have lo := h.lo
  exact ⟨by rw [List.length_set]; exact rowN_put h.row i x hi, nrow_set h.res (by show r ≠ g; omega) _, aldrew_set h.src lo.1 (by omega), lo⟩
theorem DaS.bel (h : DaS T w sb r g z l V) (hb : Below V.heap.size V V') : DaS T w sb r g z l V' := ⟨nrow_below h.row hb, nrow_below h.res hb, aldrew_bel h.src hb, h.lo⟩
end
set_option maxRecDepth 100000 in
set_option maxHeartbeats 16000000 in
theorem dalarm_any (sb : Nat) (w : World) (h : Src sb w) :
    Calls Tryd.prog 37 #[.pointer (some ⟨sb, 0, none⟩)] w fun e w' => (∃ a : Al.A, e = .returned (alV a)) ∧ Drew sb w w' := by
  obtain ⟨W, hW⟩ : ∃ W, W = w.alloc (.cells #[.int .i64 0, .int .i64 0, .int .i64 0, .int .i64 0, .int .i64 0, .int .i64 0] 40) := ⟨_, rfl⟩
  obtain ⟨r, hr⟩ : ∃ r, r = w.heap.size := ⟨_, rfl⟩
  have HR : Hid (W.rowIs r 40 6 (rowN [.int .i64 0, .int .i64 0, .int .i64 0, .int .i64 0, .int .i64 0, .int .i64 0])) := by show World.rowIs _ _ _ _ _; rw [hW, hr]; exact rowN_alloc w [.int .i64 0, .int .i64 0, .int .i64 0, .int .i64 0, .int .i64 0, .int .i64 0] _
  have HD : Hid (Drew sb w W) := by show Drew _ _ _; rw [hW]; exact aldrew_bel (V := w) ⟨h, Chg.refl _ _⟩ (nbel_alloc _ _)
  have HL : Hid (sb < w.heap.size ∧ w.heap.size ≤ r) := ⟨h.lt, by omega⟩
  have HW := Lib.hid hW
  have HRR := Lib.hid hr
  clear hW hr h
  go_enter Tryd.func37, Tryd.ntmps37
  go_wp2_with fail
  rw [← HRR.out, ← HW.out]
  clear HW HRR
  refine (n_any sb 20 _ HD.out.1 (by omega)).mono ?_
  rintro e wa ⟨⟨x, rfl, xa, xb, xc⟩, hD⟩
  have xd := xb (by omega)
  have HR2 := Lib.hid (HR.out.of_block (hD.2.2.2.2.2 r HR.out.lt (by have := HL.out; omega)))
  have HD2 := Lib.hid (aldrew_more HD.out hD)
  clear hD HR HD xb xc
  have HR := HR2
  have HD := HD2
  clear HR2 HD2
  go_wp2_with fail
  refine (n_any sb 20 _ HD.out.1 (by omega)).mono ?_
  rintro e wb ⟨⟨y, rfl, ya, yb, yc⟩, hD⟩
  have yd := yb (by omega)
  have HR2 := Lib.hid (HR.out.of_block (hD.2.2.2.2.2 r HR.out.lt (by have := HL.out; omega)))
  have HD2 := Lib.hid (aldrew_more HD.out hD)
  clear hD HR HD yb yc
  have HR := HR2
  have HD := HD2
  clear HR2 HD2
  go_wp2_with fail
  refine (n_any sb 4 _ HD.out.1 (by omega)).mono ?_
  rintro e wc ⟨⟨z, rfl, za, zb, zc⟩, hD⟩
  have zd := zb (by omega)
  have HR2 := Lib.hid (HR.out.of_block (hD.2.2.2.2.2 r HR.out.lt (by have := HL.out; omega)))
  have HD2 := Lib.hid (aldrew_more HD.out hD)
  clear hD HR HD zb zc
  have HR := HR2
  have HD := HD2
  clear HR2 HD2
  obtain ⟨hi, hhi⟩ : ∃ q, q = 20 + x := ⟨_, rfl⟩
  have hib : 20 ≤ hi ∧ hi ≤ 39 := by omega
  obtain ⟨V0, hV0⟩ : ∃ V, V = wc.alloc (.cells #[.int .i64 (20 + x), .int .i64 y, .int .i64 z, .int .i64 1, .int .i64 0, .int .i64 0] 40) := ⟨_, rfl⟩
  obtain ⟨g, hg⟩ : ∃ g, g = wc.heap.size := ⟨_, rfl⟩
  have HS : Hid (DaS 40 w sb r g [.int .i64 0, .int .i64 0, .int .i64 0, .int .i64 0, .int .i64 0, .int .i64 0] [.int .i64 hi, .int .i64 y, .int .i64 z, .int .i64 1, .int .i64 0, .int .i64 0] V0) := by
    show DaS _ _ _ _ _ _ _ _
    rw [hV0, hg, hhi]
    exact ⟨rowN_alloc wc [.int .i64 (20 + x), .int .i64 y, .int .i64 z, .int .i64 1, .int .i64 0, .int .i64 0] _, nrow_below HR.out (nbel_alloc _ _), aldrew_bel HD.out (nbel_alloc _ _), HL.out.1, HL.out.2, HR.out.lt⟩
  have HV0 := Lib.hid hV0
  have HG := Lib.hid hg
  clear hV0 hg hhi HR HD HL
  go_wp2_with fail
  rw [← HG.out, ← HV0.out]
  clear HG HV0
  refine (one_any sb 3 _ HS.out.src.1 (by omega)).mono ?_
  rintro e w1 ⟨⟨bb, rfl⟩, hD⟩
  replace HS := Lib.hid (HS.out.draw hD)
  clear hD
  cases bb
  · go_wp2_with fail
    refine (one_any sb 8 _ HS.out.src.1 (by omega)).mono ?_
    rintro e w2 ⟨⟨bb, rfl⟩, hD⟩
    replace HS := Lib.hid (HS.out.draw hD)
    clear hD
    cases bb
    · go_wp2_with fail
      refine (one_any sb 15 _ HS.out.src.1 (by omega)).mono ?_
      rintro e w3 ⟨⟨bb, rfl⟩, hD⟩
      replace HS := Lib.hid (HS.out.draw hD)
      clear hD
      cases bb
      · obtain ⟨⟨c0, c1, c2, c3, c4, c5⟩, f0, f1, f2, f3, f4, f5⟩ := rowN6 (show World.rowIs _ _ _ 6 (rowN [.int .i64 hi, .int .i64 y, .int .i64 z, .int .i64 1, .int .i64 0, .int .i64 0]) from HS.out.row)
        have hgl := HS.out.row.lt
        have hrl := HS.out.res.lt
        obtain ⟨⟨o0, o1, o2, o3, o4, o5⟩, z0, z1, z2, z3, z4, z5⟩ := rowN6 (show World.rowIs _ _ _ 6 (rowN [.int .i64 0, .int .i64 0, .int .i64 0, .int .i64 0, .int .i64 0, .int .i64 0]) from HS.out.res)
        have lo := HS.out.lo
        have zr := al6put (show World.rowIs _ r 40 6 (rowN [.int .i64 0, .int .i64 0, .int .i64 0, .int .i64 0, .int .i64 0, .int .i64 0]) from HS.out.res) rfl (.int .i64 (hi)) (.int .i64 (y)) (.int .i64 (z)) (.int .i64 (1)) (.int .i64 (0)) (.int .i64 (0))
        have zd : Drew sb w (((((((w3).setCell ⟨r, 0, none⟩ (.int .i64 (hi))).setCell ⟨r, 1, none⟩ (.int .i64 (y))).setCell ⟨r, 2, none⟩ (.int .i64 (z))).setCell ⟨r, 3, none⟩ (.int .i64 (1))).setCell ⟨r, 4, none⟩ (.int .i64 (0))).setCell ⟨r, 5, none⟩ (.int .i64 (0))) := (aldrew_set (aldrew_set (aldrew_set (aldrew_set (aldrew_set (aldrew_set HS.out.src lo.1 lo.2.1) lo.1 lo.2.1) lo.1 lo.2.1) lo.1 lo.2.1) lo.1 lo.2.1) lo.1 lo.2.1)
        have ZR := Lib.hid zr
        have ZD := Lib.hid zd
        clear zr zd lo
        go_wp2_with fail
        obtain ⟨⟨q0, q1, q2, q3, q4, q5⟩, _⟩ := rowN6 ZR.out
        exact bodyPost_ret (v := .agg #[.int .i64 hi, .int .i64 y, .int .i64 z, .int .i64 1, .int .i64 0, .int .i64 0]) (by simp only [results, Tryd.results37]; simp [go_sem, q0, q1, q2, q3, q4, q5]) rfl ⟨⟨⟨hi, y, z, 1, 0, 0⟩, rfl⟩, ZD.out⟩
      · go_wp2_with fail
        refine (n_any sb (6) _ HS.out.src.1 (by omega)).mono ?_
        rintro e w4 ⟨⟨k, rfl, ka, kb, kc⟩, hD⟩
        replace HS := Lib.hid (HS.out.draw hD)
        clear hD
        have kd := kb (by omega)
        clear kb kc
        rcases (show k = 0 ∨ k = 1 ∨ k = 2 ∨ k = 3 ∨ k = 4 ∨ k = 5 by omega) with rfl | rfl | rfl | rfl | rfl | rfl
        · clear ka kd
          obtain ⟨⟨c0, c1, c2, c3, c4, c5⟩, f0, f1, f2, f3, f4, f5⟩ := rowN6 (show World.rowIs _ _ _ 6 (rowN [.int .i64 hi, .int .i64 y, .int .i64 z, .int .i64 1, .int .i64 0, .int .i64 0]) from HS.out.row)
          have hgl := HS.out.row.lt
          have hrl := HS.out.res.lt
          go_wp2_with fail
          refine region_L (fun V => DaS 40 w sb r g [.int .i64 0, .int .i64 0, .int .i64 0, .int .i64 0, .int .i64 0, .int .i64 0] [.int .i64 hi, .int .i64 y, .int .i64 z, .int .i64 1, .int .i64 0, .int .i64 0] V) 6 (by kernel_rfl) (HS.out.bel (Below.refl _ _).drew) (fun hHeld => ?_)
          clear c0 f0 c1 f1 c2 f2 c3 f3 c4 f4 c5 f5 hgl hrl
          refine takeL_do (i := 0) (v := (.pointer (some ⟨g, 0, none⟩))) rfl (by kernel_rfl) (by kernel_rfl) (by kernel_rfl) (by kernel_rfl) (fun _ _ _ h => h) (by rfl) ?_ (by assumption) ?_
          · intro w hSw
            go_simp
          simp only [Act.put, List.setIfInBounds_toArray, List.set_cons_zero, List.set_cons_succ]
          refine takeL_do (i := 1) (v := (.int .i64 (hi))) rfl (by kernel_rfl) (by kernel_rfl) (by kernel_rfl) (by kernel_rfl) (fun _ _ _ h => h) (by rfl) ?_ (by assumption) ?_
          · intro w hSw
            obtain ⟨⟨c0, c1, c2, c3, c4, c5⟩, _⟩ := rowN6 (show World.rowIs _ _ _ 6 (rowN [.int .i64 hi, .int .i64 y, .int .i64 z, .int .i64 1, .int .i64 0, .int .i64 0]) from hSw.row)
            go_simp
          simp only [Act.put, List.setIfInBounds_toArray, List.set_cons_zero, List.set_cons_succ]
          refine takeL_do (i := 2) (v := (.pointer (some ⟨sb, 0, none⟩))) rfl (by kernel_rfl) (by kernel_rfl) (by kernel_rfl) (by kernel_rfl) (fun _ _ _ h => h) (by rfl) ?_ (by assumption) ?_
          · intro w hSw
            go_simp
          simp only [Act.put, List.setIfInBounds_toArray, List.set_cons_zero, List.set_cons_succ]
          refine takeL_call (i := 3) rfl (by kernel_rfl) (fun K2 hK => ?_)
          go_simp
          refine (n_any sb 2 _ hHeld.src.1 (by omega)).mono ?_
          rintro e wz ⟨⟨d, rfl, da, db, dc⟩, hD⟩
          have dd := db (by omega)
          have hwr : IntKind.i64.wrap (hi + d) = hi + d := awrap_id (by omega) (by omega)
          clear db dc
          go_wp2_with fail
          refine hK.out _ _ (hHeld.draw hD) (fun hHeld2 => ?_)
          clear hK hHeld hD
          have hHeld := hHeld2
          clear hHeld2
          refine takeL_do (i := 4) (v := (.int .i64 (hi + d))) rfl (by kernel_rfl) (by kernel_rfl) (by kernel_rfl) (by kernel_rfl) (fun _ _ _ h => h) (by rfl) ?_ (by assumption) ?_
          · intro w hSw
            go_simp
          simp only [Act.put, List.setIfInBounds_toArray, List.set_cons_zero, List.set_cons_succ]
          refine takeL_do (i := 5) (v := (.pointer (some ⟨g, 1, none⟩))) rfl (by kernel_rfl) (by kernel_rfl) (by kernel_rfl) (by kernel_rfl) (fun _ _ _ h => h) (by rfl) ?_ (by assumption) ?_
          · intro w hSw
            go_simp
          simp only [Act.put, List.setIfInBounds_toArray, List.set_cons_zero, List.set_cons_succ]
          refine takeL_last rfl (by kernel_rfl) (by kernel_rfl) (fun K2 hK => ?_)
          replace HS := Lib.hid hHeld
          clear hHeld
          obtain ⟨⟨c0, c1, c2, c3, c4, c5⟩, f0, f1, f2, f3, f4, f5⟩ := rowN6 (show World.rowIs _ _ _ 6 (rowN [.int .i64 hi, .int .i64 y, .int .i64 z, .int .i64 1, .int .i64 0, .int .i64 0]) from HS.out.row)
          have hgl := HS.out.row.lt
          have hrl := HS.out.res.lt
          go_wp2_with fail
          refine hK.out _ _ ?_
          clear hK
          have HSL : Hid (DaS 40 w sb r g [.int .i64 0, .int .i64 0, .int .i64 0, .int .i64 0, .int .i64 0, .int .i64 0] [.int .i64 hi, .int .i64 (hi + d), .int .i64 z, .int .i64 1, .int .i64 0, .int .i64 0] (wz.setCell ⟨g, 1, none⟩ (.int .i64 (hi + d)))) := HS.out.set 1 (.int .i64 (hi + d)) (by simp)
          generalize wz.setCell ⟨g, 1, none⟩ (.int .i64 (hi + d)) = V9 at HSL ⊢
          replace HS := HSL
          clear HSL c0 f0 c1 f1 c2 f2 c3 f3 c4 f4 c5 f5 hgl hrl
          obtain ⟨⟨c0, c1, c2, c3, c4, c5⟩, f0, f1, f2, f3, f4, f5⟩ := rowN6 (show World.rowIs _ _ _ 6 (rowN [.int .i64 hi, .int .i64 (hi + d), .int .i64 z, .int .i64 1, .int .i64 0, .int .i64 0]) from HS.out.row)
          have hgl := HS.out.row.lt
          have hrl := HS.out.res.lt
          obtain ⟨⟨o0, o1, o2, o3, o4, o5⟩, z0, z1, z2, z3, z4, z5⟩ := rowN6 (show World.rowIs _ _ _ 6 (rowN [.int .i64 0, .int .i64 0, .int .i64 0, .int .i64 0, .int .i64 0, .int .i64 0]) from HS.out.res)
          have lo := HS.out.lo
          have zr := al6put (show World.rowIs _ r 40 6 (rowN [.int .i64 0, .int .i64 0, .int .i64 0, .int .i64 0, .int .i64 0, .int .i64 0]) from HS.out.res) rfl (.int .i64 (hi)) (.int .i64 (hi + d)) (.int .i64 (z)) (.int .i64 (1)) (.int .i64 (0)) (.int .i64 (0))
          have zd : Drew sb w (((((((V9).setCell ⟨r, 0, none⟩ (.int .i64 (hi))).setCell ⟨r, 1, none⟩ (.int .i64 (hi + d))).setCell ⟨r, 2, none⟩ (.int .i64 (z))).setCell ⟨r, 3, none⟩ (.int .i64 (1))).setCell ⟨r, 4, none⟩ (.int .i64 (0))).setCell ⟨r, 5, none⟩ (.int .i64 (0))) := (aldrew_set (aldrew_set (aldrew_set (aldrew_set (aldrew_set (aldrew_set HS.out.src lo.1 lo.2.1) lo.1 lo.2.1) lo.1 lo.2.1) lo.1 lo.2.1) lo.1 lo.2.1) lo.1 lo.2.1)
          have ZR := Lib.hid zr
          have ZD := Lib.hid zd
          clear zr zd lo
          go_wp2_with fail
          obtain ⟨⟨q0, q1, q2, q3, q4, q5⟩, _⟩ := rowN6 ZR.out
          exact bodyPost_ret (v := .agg #[.int .i64 hi, .int .i64 (hi + d), .int .i64 z, .int .i64 1, .int .i64 0, .int .i64 0]) (by simp only [results, Tryd.results37]; simp [go_sem, q0, q1, q2, q3, q4, q5]) rfl ⟨⟨⟨hi, hi + d, z, 1, 0, 0⟩, rfl⟩, ZD.out⟩
        · clear ka kd
          go_wp2_with fail
          refine (n_any sb (2) _ HS.out.src.1 (by omega)).mono ?_
          rintro e w5 ⟨⟨d, rfl, da, db, dc⟩, hD⟩
          replace HS := Lib.hid (HS.out.draw hD)
          clear hD
          have dd := db (by omega)
          clear db dc
          obtain ⟨⟨c0, c1, c2, c3, c4, c5⟩, f0, f1, f2, f3, f4, f5⟩ := rowN6 (show World.rowIs _ _ _ 6 (rowN [.int .i64 hi, .int .i64 y, .int .i64 z, .int .i64 1, .int .i64 0, .int .i64 0]) from HS.out.row)
          have hgl := HS.out.row.lt
          have hrl := HS.out.res.lt
          replace HS := Lib.hid (HS.out.set 0 (.int .i64 (1000000 + d)) (by simp))
          have HSL : Hid (DaS 40 w sb r g [.int .i64 0, .int .i64 0, .int .i64 0, .int .i64 0, .int .i64 0, .int .i64 0] [.int .i64 (1000000 + d), .int .i64 y, .int .i64 z, .int .i64 1, .int .i64 0, .int .i64 0] (w5.setCell ⟨g, 0, none⟩ (.int .i64 (1000000 + d)))) := HS.out
          replace HS := HSL
          clear HSL
          obtain ⟨⟨o0, o1, o2, o3, o4, o5⟩, z0, z1, z2, z3, z4, z5⟩ := rowN6 (show World.rowIs _ _ _ 6 (rowN [.int .i64 0, .int .i64 0, .int .i64 0, .int .i64 0, .int .i64 0, .int .i64 0]) from HS.out.res)
          have lo := HS.out.lo
          have zr := al6put (show World.rowIs _ r 40 6 (rowN [.int .i64 0, .int .i64 0, .int .i64 0, .int .i64 0, .int .i64 0, .int .i64 0]) from HS.out.res) rfl (.int .i64 (1000000 + d)) (.int .i64 (y)) (.int .i64 (z)) (.int .i64 (1)) (.int .i64 (0)) (.int .i64 (0))
          have zd : Drew sb w ((((((((w5.setCell ⟨g, 0, none⟩ (.int .i64 (1000000 + d)))).setCell ⟨r, 0, none⟩ (.int .i64 (1000000 + d))).setCell ⟨r, 1, none⟩ (.int .i64 (y))).setCell ⟨r, 2, none⟩ (.int .i64 (z))).setCell ⟨r, 3, none⟩ (.int .i64 (1))).setCell ⟨r, 4, none⟩ (.int .i64 (0))).setCell ⟨r, 5, none⟩ (.int .i64 (0))) := (aldrew_set (aldrew_set (aldrew_set (aldrew_set (aldrew_set (aldrew_set HS.out.src lo.1 lo.2.1) lo.1 lo.2.1) lo.1 lo.2.1) lo.1 lo.2.1) lo.1 lo.2.1) lo.1 lo.2.1)
          have ZR := Lib.hid zr
          have ZD := Lib.hid zd
          clear zr zd lo
          go_wp2_with fail
          obtain ⟨⟨q0, q1, q2, q3, q4, q5⟩, _⟩ := rowN6 ZR.out
          exact bodyPost_ret (v := .agg #[.int .i64 (1000000 + d), .int .i64 y, .int .i64 z, .int .i64 1, .int .i64 0, .int .i64 0]) (by simp only [results, Tryd.results37]; simp [go_sem, q0, q1, q2, q3, q4, q5]) rfl ⟨⟨⟨1000000 + d, y, z, 1, 0, 0⟩, rfl⟩, ZD.out⟩
        · clear ka kd
          go_wp2_with fail
          refine (n_any sb (2) _ HS.out.src.1 (by omega)).mono ?_
          rintro e w6 ⟨⟨d, rfl, da, db, dc⟩, hD⟩
          replace HS := Lib.hid (HS.out.draw hD)
          clear hD
          have dd := db (by omega)
          clear db dc
          obtain ⟨⟨c0, c1, c2, c3, c4, c5⟩, f0, f1, f2, f3, f4, f5⟩ := rowN6 (show World.rowIs _ _ _ 6 (rowN [.int .i64 hi, .int .i64 y, .int .i64 z, .int .i64 1, .int .i64 0, .int .i64 0]) from HS.out.row)
          have hgl := HS.out.row.lt
          have hrl := HS.out.res.lt
          replace HS := Lib.hid (HS.out.set 2 (.int .i64 (100 + d)) (by simp))
          have HSL : Hid (DaS 40 w sb r g [.int .i64 0, .int .i64 0, .int .i64 0, .int .i64 0, .int .i64 0, .int .i64 0] [.int .i64 hi, .int .i64 y, .int .i64 (100 + d), .int .i64 1, .int .i64 0, .int .i64 0] (w6.setCell ⟨g, 2, none⟩ (.int .i64 (100 + d)))) := HS.out
          replace HS := HSL
          clear HSL
          obtain ⟨⟨o0, o1, o2, o3, o4, o5⟩, z0, z1, z2, z3, z4, z5⟩ := rowN6 (show World.rowIs _ _ _ 6 (rowN [.int .i64 0, .int .i64 0, .int .i64 0, .int .i64 0, .int .i64 0, .int .i64 0]) from HS.out.res)
          have lo := HS.out.lo
          have zr := al6put (show World.rowIs _ r 40 6 (rowN [.int .i64 0, .int .i64 0, .int .i64 0, .int .i64 0, .int .i64 0, .int .i64 0]) from HS.out.res) rfl (.int .i64 (hi)) (.int .i64 (y)) (.int .i64 (100 + d)) (.int .i64 (1)) (.int .i64 (0)) (.int .i64 (0))
          have zd : Drew sb w ((((((((w6.setCell ⟨g, 2, none⟩ (.int .i64 (100 + d)))).setCell ⟨r, 0, none⟩ (.int .i64 (hi))).setCell ⟨r, 1, none⟩ (.int .i64 (y))).setCell ⟨r, 2, none⟩ (.int .i64 (100 + d))).setCell ⟨r, 3, none⟩ (.int .i64 (1))).setCell ⟨r, 4, none⟩ (.int .i64 (0))).setCell ⟨r, 5, none⟩ (.int .i64 (0))) := (aldrew_set (aldrew_set (aldrew_set (aldrew_set (aldrew_set (aldrew_set HS.out.src lo.1 lo.2.1) lo.1 lo.2.1) lo.1 lo.2.1) lo.1 lo.2.1) lo.1 lo.2.1) lo.1 lo.2.1)
          have ZR := Lib.hid zr
          have ZD := Lib.hid zd
          clear zr zd lo
          go_wp2_with fail
          obtain ⟨⟨q0, q1, q2, q3, q4, q5⟩, _⟩ := rowN6 ZR.out
          exact bodyPost_ret (v := .agg #[.int .i64 hi, .int .i64 y, .int .i64 (100 + d), .int .i64 1, .int .i64 0, .int .i64 0]) (by simp only [results, Tryd.results37]; simp [go_sem, q0, q1, q2, q3, q4, q5]) rfl ⟨⟨⟨hi, y, 100 + d, 1, 0, 0⟩, rfl⟩, ZD.out⟩
        · clear ka kd
          obtain ⟨⟨c0, c1, c2, c3, c4, c5⟩, f0, f1, f2, f3, f4, f5⟩ := rowN6 (show World.rowIs _ _ _ 6 (rowN [.int .i64 hi, .int .i64 y, .int .i64 z, .int .i64 1, .int .i64 0, .int .i64 0]) from HS.out.row)
          have hgl := HS.out.row.lt
          have hrl := HS.out.res.lt
          replace HS := Lib.hid (HS.out.set 4 (.int .i64 (z + 1)) (by simp))
          have HSL : Hid (DaS 40 w sb r g [.int .i64 0, .int .i64 0, .int .i64 0, .int .i64 0, .int .i64 0, .int .i64 0] [.int .i64 hi, .int .i64 y, .int .i64 z, .int .i64 1, .int .i64 (z + 1), .int .i64 0] (w4.setCell ⟨g, 4, none⟩ (.int .i64 (z + 1)))) := HS.out
          replace HS := HSL
          clear HSL
          obtain ⟨⟨o0, o1, o2, o3, o4, o5⟩, z0, z1, z2, z3, z4, z5⟩ := rowN6 (show World.rowIs _ _ _ 6 (rowN [.int .i64 0, .int .i64 0, .int .i64 0, .int .i64 0, .int .i64 0, .int .i64 0]) from HS.out.res)
          have lo := HS.out.lo
          have zr := al6put (show World.rowIs _ r 40 6 (rowN [.int .i64 0, .int .i64 0, .int .i64 0, .int .i64 0, .int .i64 0, .int .i64 0]) from HS.out.res) rfl (.int .i64 (hi)) (.int .i64 (y)) (.int .i64 (z)) (.int .i64 (1)) (.int .i64 (z + 1)) (.int .i64 (0))
          have zd : Drew sb w ((((((((w4.setCell ⟨g, 4, none⟩ (.int .i64 (z + 1)))).setCell ⟨r, 0, none⟩ (.int .i64 (hi))).setCell ⟨r, 1, none⟩ (.int .i64 (y))).setCell ⟨r, 2, none⟩ (.int .i64 (z))).setCell ⟨r, 3, none⟩ (.int .i64 (1))).setCell ⟨r, 4, none⟩ (.int .i64 (z + 1))).setCell ⟨r, 5, none⟩ (.int .i64 (0))) := (aldrew_set (aldrew_set (aldrew_set (aldrew_set (aldrew_set (aldrew_set HS.out.src lo.1 lo.2.1) lo.1 lo.2.1) lo.1 lo.2.1) lo.1 lo.2.1) lo.1 lo.2.1) lo.1 lo.2.1)
          have ZR := Lib.hid zr
          have ZD := Lib.hid zd
          clear zr zd lo
          go_wp2_with fail
          obtain ⟨⟨q0, q1, q2, q3, q4, q5⟩, _⟩ := rowN6 ZR.out
          exact bodyPost_ret (v := .agg #[.int .i64 hi, .int .i64 y, .int .i64 z, .int .i64 1, .int .i64 (z + 1), .int .i64 0]) (by simp only [results, Tryd.results37]; simp [go_sem, q0, q1, q2, q3, q4, q5]) rfl ⟨⟨⟨hi, y, z, 1, z + 1, 0⟩, rfl⟩, ZD.out⟩
        · clear ka kd
          go_wp2_with fail
          refine (n_any sb (2) _ HS.out.src.1 (by omega)).mono ?_
          rintro e w7 ⟨⟨d, rfl, da, db, dc⟩, hD⟩
          replace HS := Lib.hid (HS.out.draw hD)
          clear hD
          have dd := db (by omega)
          clear db dc
          obtain ⟨⟨c0, c1, c2, c3, c4, c5⟩, f0, f1, f2, f3, f4, f5⟩ := rowN6 (show World.rowIs _ _ _ 6 (rowN [.int .i64 hi, .int .i64 y, .int .i64 z, .int .i64 1, .int .i64 0, .int .i64 0]) from HS.out.row)
          have hgl := HS.out.row.lt
          have hrl := HS.out.res.lt
          replace HS := Lib.hid (HS.out.set 3 (.int .i64 (5 * d)) (by simp))
          have HSL : Hid (DaS 40 w sb r g [.int .i64 0, .int .i64 0, .int .i64 0, .int .i64 0, .int .i64 0, .int .i64 0] [.int .i64 hi, .int .i64 y, .int .i64 z, .int .i64 (5 * d), .int .i64 0, .int .i64 0] (w7.setCell ⟨g, 3, none⟩ (.int .i64 (5 * d)))) := HS.out
          replace HS := HSL
          clear HSL
          obtain ⟨⟨o0, o1, o2, o3, o4, o5⟩, z0, z1, z2, z3, z4, z5⟩ := rowN6 (show World.rowIs _ _ _ 6 (rowN [.int .i64 0, .int .i64 0, .int .i64 0, .int .i64 0, .int .i64 0, .int .i64 0]) from HS.out.res)
          have lo := HS.out.lo
          have zr := al6put (show World.rowIs _ r 40 6 (rowN [.int .i64 0, .int .i64 0, .int .i64 0, .int .i64 0, .int .i64 0, .int .i64 0]) from HS.out.res) rfl (.int .i64 (hi)) (.int .i64 (y)) (.int .i64 (z)) (.int .i64 (5 * d)) (.int .i64 (0)) (.int .i64 (0))
          have zd : Drew sb w ((((((((w7.setCell ⟨g, 3, none⟩ (.int .i64 (5 * d)))).setCell ⟨r, 0, none⟩ (.int .i64 (hi))).setCell ⟨r, 1, none⟩ (.int .i64 (y))).setCell ⟨r, 2, none⟩ (.int .i64 (z))).setCell ⟨r, 3, none⟩ (.int .i64 (5 * d))).setCell ⟨r, 4, none⟩ (.int .i64 (0))).setCell ⟨r, 5, none⟩ (.int .i64 (0))) := (aldrew_set (aldrew_set (aldrew_set (aldrew_set (aldrew_set (aldrew_set HS.out.src lo.1 lo.2.1) lo.1 lo.2.1) lo.1 lo.2.1) lo.1 lo.2.1) lo.1 lo.2.1) lo.1 lo.2.1)
          have ZR := Lib.hid zr
          have ZD := Lib.hid zd
          clear zr zd lo
          go_wp2_with fail
          obtain ⟨⟨q0, q1, q2, q3, q4, q5⟩, _⟩ := rowN6 ZR.out
          exact bodyPost_ret (v := .agg #[.int .i64 hi, .int .i64 y, .int .i64 z, .int .i64 (5 * d), .int .i64 0, .int .i64 0]) (by simp only [results, Tryd.results37]; simp [go_sem, q0, q1, q2, q3, q4, q5]) rfl ⟨⟨⟨hi, y, z, 5 * d, 0, 0⟩, rfl⟩, ZD.out⟩
        · clear ka kd
          go_wp2_with fail
          refine (n_any sb (2) _ HS.out.src.1 (by omega)).mono ?_
          rintro e w8 ⟨⟨d, rfl, da, db, dc⟩, hD⟩
          replace HS := Lib.hid (HS.out.draw hD)
          clear hD
          have dd := db (by omega)
          clear db dc
          obtain ⟨⟨c0, c1, c2, c3, c4, c5⟩, f0, f1, f2, f3, f4, f5⟩ := rowN6 (show World.rowIs _ _ _ 6 (rowN [.int .i64 hi, .int .i64 y, .int .i64 z, .int .i64 1, .int .i64 0, .int .i64 0]) from HS.out.row)
          have hgl := HS.out.row.lt
          have hrl := HS.out.res.lt
          replace HS := Lib.hid (HS.out.set 5 (.int .i64 (1000 + d)) (by simp))
          have HSL : Hid (DaS 40 w sb r g [.int .i64 0, .int .i64 0, .int .i64 0, .int .i64 0, .int .i64 0, .int .i64 0] [.int .i64 hi, .int .i64 y, .int .i64 z, .int .i64 1, .int .i64 0, .int .i64 (1000 + d)] (w8.setCell ⟨g, 5, none⟩ (.int .i64 (1000 + d)))) := HS.out
          replace HS := HSL
          clear HSL
          obtain ⟨⟨o0, o1, o2, o3, o4, o5⟩, z0, z1, z2, z3, z4, z5⟩ := rowN6 (show World.rowIs _ _ _ 6 (rowN [.int .i64 0, .int .i64 0, .int .i64 0, .int .i64 0, .int .i64 0, .int .i64 0]) from HS.out.res)
          have lo := HS.out.lo
          have zr := al6put (show World.rowIs _ r 40 6 (rowN [.int .i64 0, .int .i64 0, .int .i64 0, .int .i64 0, .int .i64 0, .int .i64 0]) from HS.out.res) rfl (.int .i64 (hi)) (.int .i64 (y)) (.int .i64 (z)) (.int .i64 (1)) (.int .i64 (0)) (.int .i64 (1000 + d))
          have zd : Drew sb w ((((((((w8.setCell ⟨g, 5, none⟩ (.int .i64 (1000 + d)))).setCell ⟨r, 0, none⟩ (.int .i64 (hi))).setCell ⟨r, 1, none⟩ (.int .i64 (y))).setCell ⟨r, 2, none⟩ (.int .i64 (z))).setCell ⟨r, 3, none⟩ (.int .i64 (1))).setCell ⟨r, 4, none⟩ (.int .i64 (0))).setCell ⟨r, 5, none⟩ (.int .i64 (1000 + d))) := (aldrew_set (aldrew_set (aldrew_set (aldrew_set (aldrew_set (aldrew_set HS.out.src lo.1 lo.2.1) lo.1 lo.2.1) lo.1 lo.2.1) lo.1 lo.2.1) lo.1 lo.2.1) lo.1 lo.2.1)
          have ZR := Lib.hid zr
          have ZD := Lib.hid zd
          clear zr zd lo
          go_wp2_with fail
          obtain ⟨⟨q0, q1, q2, q3, q4, q5⟩, _⟩ := rowN6 ZR.out
          exact bodyPost_ret (v := .agg #[.int .i64 hi, .int .i64 y, .int .i64 z, .int .i64 1, .int .i64 0, .int .i64 (1000 + d)]) (by simp only [results, Tryd.results37]; simp [go_sem, q0, q1, q2, q3, q4, q5]) rfl ⟨⟨⟨hi, y, z, 1, 0, 1000 + d⟩, rfl⟩, ZD.out⟩
    · go_wp2_with fail
      refine (n_any sb (6) _ HS.out.src.1 (by omega)).mono ?_
      rintro e w9 ⟨⟨s6, rfl, s6a, s6b, s6c⟩, hD⟩
      replace HS := Lib.hid (HS.out.draw hD)
      clear hD
      have s6d := s6b (by omega)
      clear s6b s6c
      obtain ⟨V10, hV⟩ : ∃ Z, Z = w9.setCell ⟨g, 5, none⟩ (.int .i64 (s6)) := ⟨_, rfl⟩
      have HV : Hid (V10 = w9.setCell ⟨g, 5, none⟩ (.int .i64 (s6))) := hV
      have HS2 : Hid (DaS 40 w sb r g [.int .i64 0, .int .i64 0, .int .i64 0, .int .i64 0, .int .i64 0, .int .i64 0] [.int .i64 hi, .int .i64 y, .int .i64 z, .int .i64 1, .int .i64 0, .int .i64 s6] V10) := by show DaS _ _ _ _ _ _ _ _; rw [hV]; exact HS.out.set 5 (.int .i64 (s6)) (by simp)
      clear hV
      obtain ⟨⟨c0, c1, c2, c3, c4, c5⟩, f0, f1, f2, f3, f4, f5⟩ := rowN6 (show World.rowIs _ _ _ 6 (rowN [.int .i64 hi, .int .i64 y, .int .i64 z, .int .i64 1, .int .i64 0, .int .i64 0]) from HS.out.row)
      have hgl := HS.out.row.lt
      have hrl := HS.out.res.lt
      go_wp2_with fail
      rw [← HV.out]
      clear HV
      replace HS := HS2
      clear HS2
      clear c0 f0 c1 f1 c2 f2 c3 f3 c4 f4 c5 f5 hgl hrl
      refine (one_any sb 15 _ HS.out.src.1 (by omega)).mono ?_
      rintro e w11 ⟨⟨bb, rfl⟩, hD⟩
      replace HS := Lib.hid (HS.out.draw hD)
      clear hD
      cases bb
      · obtain ⟨⟨c0, c1, c2, c3, c4, c5⟩, f0, f1, f2, f3, f4, f5⟩ := rowN6 (show World.rowIs _ _ _ 6 (rowN [.int .i64 hi, .int .i64 y, .int .i64 z, .int .i64 1, .int .i64 0, .int .i64 s6]) from HS.out.row)
        have hgl := HS.out.row.lt
        have hrl := HS.out.res.lt
        obtain ⟨⟨o0, o1, o2, o3, o4, o5⟩, z0, z1, z2, z3, z4, z5⟩ := rowN6 (show World.rowIs _ _ _ 6 (rowN [.int .i64 0, .int .i64 0, .int .i64 0, .int .i64 0, .int .i64 0, .int .i64 0]) from HS.out.res)
        have lo := HS.out.lo
        have zr := al6put (show World.rowIs _ r 40 6 (rowN [.int .i64 0, .int .i64 0, .int .i64 0, .int .i64 0, .int .i64 0, .int .i64 0]) from HS.out.res) rfl (.int .i64 (hi)) (.int .i64 (y)) (.int .i64 (z)) (.int .i64 (1)) (.int .i64 (0)) (.int .i64 (s6))
        have zd : Drew sb w (((((((w11).setCell ⟨r, 0, none⟩ (.int .i64 (hi))).setCell ⟨r, 1, none⟩ (.int .i64 (y))).setCell ⟨r, 2, none⟩ (.int .i64 (z))).setCell ⟨r, 3, none⟩ (.int .i64 (1))).setCell ⟨r, 4, none⟩ (.int .i64 (0))).setCell ⟨r, 5, none⟩ (.int .i64 (s6))) := (aldrew_set (aldrew_set (aldrew_set (aldrew_set (aldrew_set (aldrew_set HS.out.src lo.1 lo.2.1) lo.1 lo.2.1) lo.1 lo.2.1) lo.1 lo.2.1) lo.1 lo.2.1) lo.1 lo.2.1)
        have ZR := Lib.hid zr
        have ZD := Lib.hid zd
        clear zr zd lo
        go_wp2_with fail
        obtain ⟨⟨q0, q1, q2, q3, q4, q5⟩, _⟩ := rowN6 ZR.out
        exact bodyPost_ret (v := .agg #[.int .i64 hi, .int .i64 y, .int .i64 z, .int .i64 1, .int .i64 0, .int .i64 s6]) (by simp only [results, Tryd.results37]; simp [go_sem, q0, q1, q2, q3, q4, q5]) rfl ⟨⟨⟨hi, y, z, 1, 0, s6⟩, rfl⟩, ZD.out⟩
      · go_wp2_with fail
        refine (n_any sb (6) _ HS.out.src.1 (by omega)).mono ?_
        rintro e w12 ⟨⟨k, rfl, ka, kb, kc⟩, hD⟩
        replace HS := Lib.hid (HS.out.draw hD)
        clear hD
        have kd := kb (by omega)
        clear kb kc
        rcases (show k = 0 ∨ k = 1 ∨ k = 2 ∨ k = 3 ∨ k = 4 ∨ k = 5 by omega) with rfl | rfl | rfl | rfl | rfl | rfl
        · clear ka kd
          obtain ⟨⟨c0, c1, c2, c3, c4, c5⟩, f0, f1, f2, f3, f4, f5⟩ := rowN6 (show World.rowIs _ _ _ 6 (rowN [.int .i64 hi, .int .i64 y, .int .i64 z, .int .i64 1, .int .i64 0, .int .i64 s6]) from HS.out.row)
          have hgl := HS.out.row.lt
          have hrl := HS.out.res.lt
          go_wp2_with fail
          refine region_L (fun V => DaS 40 w sb r g [.int .i64 0, .int .i64 0, .int .i64 0, .int .i64 0, .int .i64 0, .int .i64 0] [.int .i64 hi, .int .i64 y, .int .i64 z, .int .i64 1, .int .i64 0, .int .i64 s6] V) 6 (by kernel_rfl) (HS.out.bel (Below.refl _ _).drew) (fun hHeld => ?_)
          clear c0 f0 c1 f1 c2 f2 c3 f3 c4 f4 c5 f5 hgl hrl
          refine takeL_do (i := 0) (v := (.pointer (some ⟨g, 0, none⟩))) rfl (by kernel_rfl) (by kernel_rfl) (by kernel_rfl) (by kernel_rfl) (fun _ _ _ h => h) (by rfl) ?_ (by assumption) ?_
          · intro w hSw
            go_simp
          simp only [Act.put, List.setIfInBounds_toArray, List.set_cons_zero, List.set_cons_succ]
          refine takeL_do (i := 1) (v := (.int .i64 (hi))) rfl (by kernel_rfl) (by kernel_rfl) (by kernel_rfl) (by kernel_rfl) (fun _ _ _ h => h) (by rfl) ?_ (by assumption) ?_
          · intro w hSw
            obtain ⟨⟨c0, c1, c2, c3, c4, c5⟩, _⟩ := rowN6 (show World.rowIs _ _ _ 6 (rowN [.int .i64 hi, .int .i64 y, .int .i64 z, .int .i64 1, .int .i64 0, .int .i64 s6]) from hSw.row)
            go_simp
          simp only [Act.put, List.setIfInBounds_toArray, List.set_cons_zero, List.set_cons_succ]
          refine takeL_do (i := 2) (v := (.pointer (some ⟨sb, 0, none⟩))) rfl (by kernel_rfl) (by kernel_rfl) (by kernel_rfl) (by kernel_rfl) (fun _ _ _ h => h) (by rfl) ?_ (by assumption) ?_
          · intro w hSw
            go_simp
          simp only [Act.put, List.setIfInBounds_toArray, List.set_cons_zero, List.set_cons_succ]
          refine takeL_call (i := 3) rfl (by kernel_rfl) (fun K2 hK => ?_)
          go_simp
          refine (n_any sb 2 _ hHeld.src.1 (by omega)).mono ?_
          rintro e wz ⟨⟨d, rfl, da, db, dc⟩, hD⟩
          have dd := db (by omega)
          have hwr : IntKind.i64.wrap (hi + d) = hi + d := awrap_id (by omega) (by omega)
          clear db dc
          go_wp2_with fail
          refine hK.out _ _ (hHeld.draw hD) (fun hHeld2 => ?_)
          clear hK hHeld hD
          have hHeld := hHeld2
          clear hHeld2
          refine takeL_do (i := 4) (v := (.int .i64 (hi + d))) rfl (by kernel_rfl) (by kernel_rfl) (by kernel_rfl) (by kernel_rfl) (fun _ _ _ h => h) (by rfl) ?_ (by assumption) ?_
          · intro w hSw
            go_simp
          simp only [Act.put, List.setIfInBounds_toArray, List.set_cons_zero, List.set_cons_succ]
          refine takeL_do (i := 5) (v := (.pointer (some ⟨g, 1, none⟩))) rfl (by kernel_rfl) (by kernel_rfl) (by kernel_rfl) (by kernel_rfl) (fun _ _ _ h => h) (by rfl) ?_ (by assumption) ?_
          · intro w hSw
            go_simp
          simp only [Act.put, List.setIfInBounds_toArray, List.set_cons_zero, List.set_cons_succ]
          refine takeL_last rfl (by kernel_rfl) (by kernel_rfl) (fun K2 hK => ?_)
          replace HS := Lib.hid hHeld
          clear hHeld
          obtain ⟨⟨c0, c1, c2, c3, c4, c5⟩, f0, f1, f2, f3, f4, f5⟩ := rowN6 (show World.rowIs _ _ _ 6 (rowN [.int .i64 hi, .int .i64 y, .int .i64 z, .int .i64 1, .int .i64 0, .int .i64 s6]) from HS.out.row)
          have hgl := HS.out.row.lt
          have hrl := HS.out.res.lt
          go_wp2_with fail
          refine hK.out _ _ ?_
          clear hK
          have HSL : Hid (DaS 40 w sb r g [.int .i64 0, .int .i64 0, .int .i64 0, .int .i64 0, .int .i64 0, .int .i64 0] [.int .i64 hi, .int .i64 (hi + d), .int .i64 z, .int .i64 1, .int .i64 0, .int .i64 s6] (wz.setCell ⟨g, 1, none⟩ (.int .i64 (hi + d)))) := HS.out.set 1 (.int .i64 (hi + d)) (by simp)
          generalize wz.setCell ⟨g, 1, none⟩ (.int .i64 (hi + d)) = V9 at HSL ⊢
          replace HS := HSL
          clear HSL c0 f0 c1 f1 c2 f2 c3 f3 c4 f4 c5 f5 hgl hrl
          obtain ⟨⟨c0, c1, c2, c3, c4, c5⟩, f0, f1, f2, f3, f4, f5⟩ := rowN6 (show World.rowIs _ _ _ 6 (rowN [.int .i64 hi, .int .i64 (hi + d), .int .i64 z, .int .i64 1, .int .i64 0, .int .i64 s6]) from HS.out.row)
          have hgl := HS.out.row.lt
          have hrl := HS.out.res.lt
          obtain ⟨⟨o0, o1, o2, o3, o4, o5⟩, z0, z1, z2, z3, z4, z5⟩ := rowN6 (show World.rowIs _ _ _ 6 (rowN [.int .i64 0, .int .i64 0, .int .i64 0, .int .i64 0, .int .i64 0, .int .i64 0]) from HS.out.res)
          have lo := HS.out.lo
          have zr := al6put (show World.rowIs _ r 40 6 (rowN [.int .i64 0, .int .i64 0, .int .i64 0, .int .i64 0, .int .i64 0, .int .i64 0]) from HS.out.res) rfl (.int .i64 (hi)) (.int .i64 (hi + d)) (.int .i64 (z)) (.int .i64 (1)) (.int .i64 (0)) (.int .i64 (s6))
          have zd : Drew sb w (((((((V9).setCell ⟨r, 0, none⟩ (.int .i64 (hi))).setCell ⟨r, 1, none⟩ (.int .i64 (hi + d))).setCell ⟨r, 2, none⟩ (.int .i64 (z))).setCell ⟨r, 3, none⟩ (.int .i64 (1))).setCell ⟨r, 4, none⟩ (.int .i64 (0))).setCell ⟨r, 5, none⟩ (.int .i64 (s6))) := (aldrew_set (aldrew_set (aldrew_set (aldrew_set (aldrew_set (aldrew_set HS.out.src lo.1 lo.2.1) lo.1 lo.2.1) lo.1 lo.2.1) lo.1 lo.2.1) lo.1 lo.2.1) lo.1 lo.2.1)
          have ZR := Lib.hid zr
          have ZD := Lib.hid zd
          clear zr zd lo
          go_wp2_with fail
          obtain ⟨⟨q0, q1, q2, q3, q4, q5⟩, _⟩ := rowN6 ZR.out
          exact bodyPost_ret (v := .agg #[.int .i64 hi, .int .i64 (hi + d), .int .i64 z, .int .i64 1, .int .i64 0, .int .i64 s6]) (by simp only [results, Tryd.results37]; simp [go_sem, q0, q1, q2, q3, q4, q5]) rfl ⟨⟨⟨hi, hi + d, z, 1, 0, s6⟩, rfl⟩, ZD.out⟩
        · clear ka kd
          go_wp2_with fail
          refine (n_any sb (2) _ HS.out.src.1 (by omega)).mono ?_
          rintro e w13 ⟨⟨d, rfl, da, db, dc⟩, hD⟩
          replace HS := Lib.hid (HS.out.draw hD)
          clear hD
          have dd := db (by omega)
          clear db dc
          obtain ⟨⟨c0, c1, c2, c3, c4, c5⟩, f0, f1, f2, f3, f4, f5⟩ := rowN6 (show World.rowIs _ _ _ 6 (rowN [.int .i64 hi, .int .i64 y, .int .i64 z, .int .i64 1, .int .i64 0, .int .i64 s6]) from HS.out.row)
          have hgl := HS.out.row.lt
          have hrl := HS.out.res.lt
          replace HS := Lib.hid (HS.out.set 0 (.int .i64 (1000000 + d)) (by simp))
          have HSL : Hid (DaS 40 w sb r g [.int .i64 0, .int .i64 0, .int .i64 0, .int .i64 0, .int .i64 0, .int .i64 0] [.int .i64 (1000000 + d), .int .i64 y, .int .i64 z, .int .i64 1, .int .i64 0, .int .i64 s6] (w13.setCell ⟨g, 0, none⟩ (.int .i64 (1000000 + d)))) := HS.out
          replace HS := HSL
          clear HSL
          obtain ⟨⟨o0, o1, o2, o3, o4, o5⟩, z0, z1, z2, z3, z4, z5⟩ := rowN6 (show World.rowIs _ _ _ 6 (rowN [.int .i64 0, .int .i64 0, .int .i64 0, .int .i64 0, .int .i64 0, .int .i64 0]) from HS.out.res)
          have lo := HS.out.lo
          have zr := al6put (show World.rowIs _ r 40 6 (rowN [.int .i64 0, .int .i64 0, .int .i64 0, .int .i64 0, .int .i64 0, .int .i64 0]) from HS.out.res) rfl (.int .i64 (1000000 + d)) (.int .i64 (y)) (.int .i64 (z)) (.int .i64 (1)) (.int .i64 (0)) (.int .i64 (s6))
          have zd : Drew sb w ((((((((w13.setCell ⟨g, 0, none⟩ (.int .i64 (1000000 + d)))).setCell ⟨r, 0, none⟩ (.int .i64 (1000000 + d))).setCell ⟨r, 1, none⟩ (.int .i64 (y))).setCell ⟨r, 2, none⟩ (.int .i64 (z))).setCell ⟨r, 3, none⟩ (.int .i64 (1))).setCell ⟨r, 4, none⟩ (.int .i64 (0))).setCell ⟨r, 5, none⟩ (.int .i64 (s6))) := (aldrew_set (aldrew_set (aldrew_set (aldrew_set (aldrew_set (aldrew_set HS.out.src lo.1 lo.2.1) lo.1 lo.2.1) lo.1 lo.2.1) lo.1 lo.2.1) lo.1 lo.2.1) lo.1 lo.2.1)
          have ZR := Lib.hid zr
          have ZD := Lib.hid zd
          clear zr zd lo
          go_wp2_with fail
          obtain ⟨⟨q0, q1, q2, q3, q4, q5⟩, _⟩ := rowN6 ZR.out
          exact bodyPost_ret (v := .agg #[.int .i64 (1000000 + d), .int .i64 y, .int .i64 z, .int .i64 1, .int .i64 0, .int .i64 s6]) (by simp only [results, Tryd.results37]; simp [go_sem, q0, q1, q2, q3, q4, q5]) rfl ⟨⟨⟨1000000 + d, y, z, 1, 0, s6⟩, rfl⟩, ZD.out⟩
        · clear ka kd
          go_wp2_with fail
          refine (n_any sb (2) _ HS.out.src.1 (by omega)).mono ?_
          rintro e w14 ⟨⟨d, rfl, da, db, dc⟩, hD⟩
          replace HS := Lib.hid (HS.out.draw hD)
          clear hD
          have dd := db (by omega)
          clear db dc
          obtain ⟨⟨c0, c1, c2, c3, c4, c5⟩, f0, f1, f2, f3, f4, f5⟩ := rowN6 (show World.rowIs _ _ _ 6 (rowN [.int .i64 hi, .int .i64 y, .int .i64 z, .int .i64 1, .int .i64 0, .int .i64 s6]) from HS.out.row)
          have hgl := HS.out.row.lt
          have hrl := HS.out.res.lt
          replace HS := Lib.hid (HS.out.set 2 (.int .i64 (100 + d)) (by simp))
          have HSL : Hid (DaS 40 w sb r g [.int .i64 0, .int .i64 0, .int .i64 0, .int .i64 0, .int .i64 0, .int .i64 0] [.int .i64 hi, .int .i64 y, .int .i64 (100 + d), .int .i64 1, .int .i64 0, .int .i64 s6] (w14.setCell ⟨g, 2, none⟩ (.int .i64 (100 + d)))) := HS.out
          replace HS := HSL
          clear HSL
          obtain ⟨⟨o0, o1, o2, o3, o4, o5⟩, z0, z1, z2, z3, z4, z5⟩ := rowN6 (show World.rowIs _ _ _ 6 (rowN [.int .i64 0, .int .i64 0, .int .i64 0, .int .i64 0, .int .i64 0, .int .i64 0]) from HS.out.res)
          have lo := HS.out.lo
          have zr := al6put (show World.rowIs _ r 40 6 (rowN [.int .i64 0, .int .i64 0, .int .i64 0, .int .i64 0, .int .i64 0, .int .i64 0]) from HS.out.res) rfl (.int .i64 (hi)) (.int .i64 (y)) (.int .i64 (100 + d)) (.int .i64 (1)) (.int .i64 (0)) (.int .i64 (s6))
          have zd : Drew sb w ((((((((w14.setCell ⟨g, 2, none⟩ (.int .i64 (100 + d)))).setCell ⟨r, 0, none⟩ (.int .i64 (hi))).setCell ⟨r, 1, none⟩ (.int .i64 (y))).setCell ⟨r, 2, none⟩ (.int .i64 (100 + d))).setCell ⟨r, 3, none⟩ (.int .i64 (1))).setCell ⟨r, 4, none⟩ (.int .i64 (0))).setCell ⟨r, 5, none⟩ (.int .i64 (s6))) := (aldrew_set (aldrew_set (aldrew_set (aldrew_set (aldrew_set (aldrew_set HS.out.src lo.1 lo.2.1) lo.1 lo.2.1) lo.1 lo.2.1) lo.1 lo.2.1) lo.1 lo.2.1) lo.1 lo.2.1)
          have ZR := Lib.hid zr
          have ZD := Lib.hid zd
          clear zr zd lo
          go_wp2_with fail
          obtain ⟨⟨q0, q1, q2, q3, q4, q5⟩, _⟩ := rowN6 ZR.out
          exact bodyPost_ret (v := .agg #[.int .i64 hi, .int .i64 y, .int .i64 (100 + d), .int .i64 1, .int .i64 0, .int .i64 s6]) (by simp only [results, Tryd.results37]; simp [go_sem, q0, q1, q2, q3, q4, q5]) rfl ⟨⟨⟨hi, y, 100 + d, 1, 0, s6⟩, rfl⟩, ZD.out⟩
        · clear ka kd
          obtain ⟨⟨c0, c1, c2, c3, c4, c5⟩, f0, f1, f2, f3, f4, f5⟩ := rowN6 (show World.rowIs _ _ _ 6 (rowN [.int .i64 hi, .int .i64 y, .int .i64 z, .int .i64 1, .int .i64 0, .int .i64 s6]) from HS.out.row)
          have hgl := HS.out.row.lt
          have hrl := HS.out.res.lt
          replace HS := Lib.hid (HS.out.set 4 (.int .i64 (z + 1)) (by simp))
          have HSL : Hid (DaS 40 w sb r g [.int .i64 0, .int .i64 0, .int .i64 0, .int .i64 0, .int .i64 0, .int .i64 0] [.int .i64 hi, .int .i64 y, .int .i64 z, .int .i64 1, .int .i64 (z + 1), .int .i64 s6] (w12.setCell ⟨g, 4, none⟩ (.int .i64 (z + 1)))) := HS.out
          replace HS := HSL
          clear HSL
          obtain ⟨⟨o0, o1, o2, o3, o4, o5⟩, z0, z1, z2, z3, z4, z5⟩ := rowN6 (show World.rowIs _ _ _ 6 (rowN [.int .i64 0, .int .i64 0, .int .i64 0, .int .i64 0, .int .i64 0, .int .i64 0]) from HS.out.res)
          have lo := HS.out.lo
          have zr := al6put (show World.rowIs _ r 40 6 (rowN [.int .i64 0, .int .i64 0, .int .i64 0, .int .i64 0, .int .i64 0, .int .i64 0]) from HS.out.res) rfl (.int .i64 (hi)) (.int .i64 (y)) (.int .i64 (z)) (.int .i64 (1)) (.int .i64 (z + 1)) (.int .i64 (s6))
          have zd : Drew sb w ((((((((w12.setCell ⟨g, 4, none⟩ (.int .i64 (z + 1)))).setCell ⟨r, 0, none⟩ (.int .i64 (hi))).setCell ⟨r, 1, none⟩ (.int .i64 (y))).setCell ⟨r, 2, none⟩ (.int .i64 (z))).setCell ⟨r, 3, none⟩ (.int .i64 (1))).setCell ⟨r, 4, none⟩ (.int .i64 (z + 1))).setCell ⟨r, 5, none⟩ (.int .i64 (s6))) := (aldrew_set (aldrew_set (aldrew_set (aldrew_set (aldrew_set (aldrew_set HS.out.src lo.1 lo.2.1) lo.1 lo.2.1) lo.1 lo.2.1) lo.1 lo.2.1) lo.1 lo.2.1) lo.1 lo.2.1)
          have ZR := Lib.hid zr
          have ZD := Lib.hid zd
          clear zr zd lo
          go_wp2_with fail
          obtain ⟨⟨q0, q1, q2, q3, q4, q5⟩, _⟩ := rowN6 ZR.out
          exact bodyPost_ret (v := .agg #[.int .i64 hi, .int .i64 y, .int .i64 z, .int .i64 1, .int .i64 (z + 1), .int .i64 s6]) (by simp only [results, Tryd.results37]; simp [go_sem, q0, q1, q2, q3, q4, q5]) rfl ⟨⟨⟨hi, y, z, 1, z + 1, s6⟩, rfl⟩, ZD.out⟩
        · clear ka kd
          go_wp2_with fail
          refine (n_any sb (2) _ HS.out.src.1 (by omega)).mono ?_
          rintro e w15 ⟨⟨d, rfl, da, db, dc⟩, hD⟩
          replace HS := Lib.hid (HS.out.draw hD)
          clear hD
          have dd := db (by omega)
          clear db dc
          obtain ⟨⟨c0, c1, c2, c3, c4, c5⟩, f0, f1, f2, f3, f4, f5⟩ := rowN6 (show World.rowIs _ _ _ 6 (rowN [.int .i64 hi, .int .i64 y, .int .i64 z, .int .i64 1, .int .i64 0, .int .i64 s6]) from HS.out.row)
          have hgl := HS.out.row.lt
          have hrl := HS.out.res.lt
          replace HS := Lib.hid (HS.out.set 3 (.int .i64 (5 * d)) (by simp))
          have HSL : Hid (DaS 40 w sb r g [.int .i64 0, .int .i64 0, .int .i64 0, .int .i64 0, .int .i64 0, .int .i64 0] [.int .i64 hi, .int .i64 y, .int .i64 z, .int .i64 (5 * d), .int .i64 0, .int .i64 s6] (w15.setCell ⟨g, 3, none⟩ (.int .i64 (5 * d)))) := HS.out
          replace HS := HSL
          clear HSL
          obtain ⟨⟨o0, o1, o2, o3, o4, o5⟩, z0, z1, z2, z3, z4, z5⟩ := rowN6 (show World.rowIs _ _ _ 6 (rowN [.int .i64 0, .int .i64 0, .int .i64 0, .int .i64 0, .int .i64 0, .int .i64 0]) from HS.out.res)
          have lo := HS.out.lo
          have zr := al6put (show World.rowIs _ r 40 6 (rowN [.int .i64 0, .int .i64 0, .int .i64 0, .int .i64 0, .int .i64 0, .int .i64 0]) from HS.out.res) rfl (.int .i64 (hi)) (.int .i64 (y)) (.int .i64 (z)) (.int .i64 (5 * d)) (.int .i64 (0)) (.int .i64 (s6))
          have zd : Drew sb w ((((((((w15.setCell ⟨g, 3, none⟩ (.int .i64 (5 * d)))).setCell ⟨r, 0, none⟩ (.int .i64 (hi))).setCell ⟨r, 1, none⟩ (.int .i64 (y))).setCell ⟨r, 2, none⟩ (.int .i64 (z))).setCell ⟨r, 3, none⟩ (.int .i64 (5 * d))).setCell ⟨r, 4, none⟩ (.int .i64 (0))).setCell ⟨r, 5, none⟩ (.int .i64 (s6))) := (aldrew_set (aldrew_set (aldrew_set (aldrew_set (aldrew_set (aldrew_set HS.out.src lo.1 lo.2.1) lo.1 lo.2.1) lo.1 lo.2.1) lo.1 lo.2.1) lo.1 lo.2.1) lo.1 lo.2.1)
          have ZR := Lib.hid zr
          have ZD := Lib.hid zd
          clear zr zd lo
          go_wp2_with fail
          obtain ⟨⟨q0, q1, q2, q3, q4, q5⟩, _⟩ := rowN6 ZR.out
          exact bodyPost_ret (v := .agg #[.int .i64 hi, .int .i64 y, .int .i64 z, .int .i64 (5 * d), .int .i64 0, .int .i64 s6]) (by simp only [results, Tryd.results37]; simp [go_sem, q0, q1, q2, q3, q4, q5]) rfl ⟨⟨⟨hi, y, z, 5 * d, 0, s6⟩, rfl⟩, ZD.out⟩
        · clear ka kd
          go_wp2_with fail
          refine (n_any sb (2) _ HS.out.src.1 (by omega)).mono ?_
          rintro e w16 ⟨⟨d, rfl, da, db, dc⟩, hD⟩
          replace HS := Lib.hid (HS.out.draw hD)
          clear hD
          have dd := db (by omega)
          clear db dc
          obtain ⟨⟨c0, c1, c2, c3, c4, c5⟩, f0, f1, f2, f3, f4, f5⟩ := rowN6 (show World.rowIs _ _ _ 6 (rowN [.int .i64 hi, .int .i64 y, .int .i64 z, .int .i64 1, .int .i64 0, .int .i64 s6]) from HS.out.row)
          have hgl := HS.out.row.lt
          have hrl := HS.out.res.lt
          replace HS := Lib.hid (HS.out.set 5 (.int .i64 (1000 + d)) (by simp))
          have HSL : Hid (DaS 40 w sb r g [.int .i64 0, .int .i64 0, .int .i64 0, .int .i64 0, .int .i64 0, .int .i64 0] [.int .i64 hi, .int .i64 y, .int .i64 z, .int .i64 1, .int .i64 0, .int .i64 (1000 + d)] (w16.setCell ⟨g, 5, none⟩ (.int .i64 (1000 + d)))) := HS.out
          replace HS := HSL
          clear HSL
          obtain ⟨⟨o0, o1, o2, o3, o4, o5⟩, z0, z1, z2, z3, z4, z5⟩ := rowN6 (show World.rowIs _ _ _ 6 (rowN [.int .i64 0, .int .i64 0, .int .i64 0, .int .i64 0, .int .i64 0, .int .i64 0]) from HS.out.res)
          have lo := HS.out.lo
          have zr := al6put (show World.rowIs _ r 40 6 (rowN [.int .i64 0, .int .i64 0, .int .i64 0, .int .i64 0, .int .i64 0, .int .i64 0]) from HS.out.res) rfl (.int .i64 (hi)) (.int .i64 (y)) (.int .i64 (z)) (.int .i64 (1)) (.int .i64 (0)) (.int .i64 (1000 + d))
          have zd : Drew sb w ((((((((w16.setCell ⟨g, 5, none⟩ (.int .i64 (1000 + d)))).setCell ⟨r, 0, none⟩ (.int .i64 (hi))).setCell ⟨r, 1, none⟩ (.int .i64 (y))).setCell ⟨r, 2, none⟩ (.int .i64 (z))).setCell ⟨r, 3, none⟩ (.int .i64 (1))).setCell ⟨r, 4, none⟩ (.int .i64 (0))).setCell ⟨r, 5, none⟩ (.int .i64 (1000 + d))) := (aldrew_set (aldrew_set (aldrew_set (aldrew_set (aldrew_set (aldrew_set HS.out.src lo.1 lo.2.1) lo.1 lo.2.1) lo.1 lo.2.1) lo.1 lo.2.1) lo.1 lo.2.1) lo.1 lo.2.1)
          have ZR := Lib.hid zr
          have ZD := Lib.hid zd
          clear zr zd lo
          go_wp2_with fail
          obtain ⟨⟨q0, q1, q2, q3, q4, q5⟩, _⟩ := rowN6 ZR.out
          exact bodyPost_ret (v := .agg #[.int .i64 hi, .int .i64 y, .int .i64 z, .int .i64 1, .int .i64 0, .int .i64 (1000 + d)]) (by simp only [results, Tryd.results37]; simp [go_sem, q0, q1, q2, q3, q4, q5]) rfl ⟨⟨⟨hi, y, z, 1, 0, 1000 + d⟩, rfl⟩, ZD.out⟩
  · go_wp2_with fail
    refine (n_any sb (4) _ HS.out.src.1 (by omega)).mono ?_
    rintro e w17 ⟨⟨s4, rfl, s4a, s4b, s4c⟩, hD⟩
    replace HS := Lib.hid (HS.out.draw hD)
    clear hD
    have s4d := s4b (by omega)
    clear s4b s4c
    obtain ⟨V18, hV⟩ : ∃ Z, Z = w17.setCell ⟨g, 3, none⟩ (.int .i64 (1 + s4)) := ⟨_, rfl⟩
    have HV : Hid (V18 = w17.setCell ⟨g, 3, none⟩ (.int .i64 (1 + s4))) := hV
    have HS2 : Hid (DaS 40 w sb r g [.int .i64 0, .int .i64 0, .int .i64 0, .int .i64 0, .int .i64 0, .int .i64 0] [.int .i64 hi, .int .i64 y, .int .i64 z, .int .i64 (1 + s4), .int .i64 0, .int .i64 0] V18) := by show DaS _ _ _ _ _ _ _ _; rw [hV]; exact HS.out.set 3 (.int .i64 (1 + s4)) (by simp)
    clear hV
    obtain ⟨⟨c0, c1, c2, c3, c4, c5⟩, f0, f1, f2, f3, f4, f5⟩ := rowN6 (show World.rowIs _ _ _ 6 (rowN [.int .i64 hi, .int .i64 y, .int .i64 z, .int .i64 1, .int .i64 0, .int .i64 0]) from HS.out.row)
    have hgl := HS.out.row.lt
    have hrl := HS.out.res.lt
    go_wp2_with fail
    rw [← HV.out]
    clear HV
    replace HS := HS2
    clear HS2
    clear c0 f0 c1 f1 c2 f2 c3 f3 c4 f4 c5 f5 hgl hrl
    refine (n_any sb (z + 1) _ HS.out.src.1 (by omega)).mono ?_
    rintro e w19 ⟨⟨cc, rfl, cca, ccb, ccc⟩, hD⟩
    replace HS := Lib.hid (HS.out.draw hD)
    clear hD
    have ccd : cc ≤ 4 := by
      by_cases q : 1 < z + 1
      · have := ccb q; omega
      · have := ccc (by omega); omega
    clear ccb ccc
    obtain ⟨V20, hV⟩ : ∃ Z, Z = w19.setCell ⟨g, 4, none⟩ (.int .i64 (cc)) := ⟨_, rfl⟩
    have HV : Hid (V20 = w19.setCell ⟨g, 4, none⟩ (.int .i64 (cc))) := hV
    have HS2 : Hid (DaS 40 w sb r g [.int .i64 0, .int .i64 0, .int .i64 0, .int .i64 0, .int .i64 0, .int .i64 0] [.int .i64 hi, .int .i64 y, .int .i64 z, .int .i64 (1 + s4), .int .i64 cc, .int .i64 0] V20) := by show DaS _ _ _ _ _ _ _ _; rw [hV]; exact HS.out.set 4 (.int .i64 (cc)) (by simp)
    clear hV
    obtain ⟨⟨c0, c1, c2, c3, c4, c5⟩, f0, f1, f2, f3, f4, f5⟩ := rowN6 (show World.rowIs _ _ _ 6 (rowN [.int .i64 hi, .int .i64 y, .int .i64 z, .int .i64 (1 + s4), .int .i64 0, .int .i64 0]) from HS.out.row)
    have hgl := HS.out.row.lt
    have hrl := HS.out.res.lt
    go_wp2_with fail
    rw [← HV.out]
    clear HV
    replace HS := HS2
    clear HS2
    clear c0 f0 c1 f1 c2 f2 c3 f3 c4 f4 c5 f5 hgl hrl
    refine (one_any sb 8 _ HS.out.src.1 (by omega)).mono ?_
    rintro e w21 ⟨⟨bb, rfl⟩, hD⟩
    replace HS := Lib.hid (HS.out.draw hD)
    clear hD
    cases bb
    · go_wp2_with fail
      refine (one_any sb 15 _ HS.out.src.1 (by omega)).mono ?_
      rintro e w22 ⟨⟨bb, rfl⟩, hD⟩
      replace HS := Lib.hid (HS.out.draw hD)
      clear hD
      cases bb
      · obtain ⟨⟨c0, c1, c2, c3, c4, c5⟩, f0, f1, f2, f3, f4, f5⟩ := rowN6 (show World.rowIs _ _ _ 6 (rowN [.int .i64 hi, .int .i64 y, .int .i64 z, .int .i64 (1 + s4), .int .i64 cc, .int .i64 0]) from HS.out.row)
        have hgl := HS.out.row.lt
        have hrl := HS.out.res.lt
        obtain ⟨⟨o0, o1, o2, o3, o4, o5⟩, z0, z1, z2, z3, z4, z5⟩ := rowN6 (show World.rowIs _ _ _ 6 (rowN [.int .i64 0, .int .i64 0, .int .i64 0, .int .i64 0, .int .i64 0, .int .i64 0]) from HS.out.res)
        have lo := HS.out.lo
        have zr := al6put (show World.rowIs _ r 40 6 (rowN [.int .i64 0, .int .i64 0, .int .i64 0, .int .i64 0, .int .i64 0, .int .i64 0]) from HS.out.res) rfl (.int .i64 (hi)) (.int .i64 (y)) (.int .i64 (z)) (.int .i64 (1 + s4)) (.int .i64 (cc)) (.int .i64 (0))
        have zd : Drew sb w (((((((w22).setCell ⟨r, 0, none⟩ (.int .i64 (hi))).setCell ⟨r, 1, none⟩ (.int .i64 (y))).setCell ⟨r, 2, none⟩ (.int .i64 (z))).setCell ⟨r, 3, none⟩ (.int .i64 (1 + s4))).setCell ⟨r, 4, none⟩ (.int .i64 (cc))).setCell ⟨r, 5, none⟩ (.int .i64 (0))) := (aldrew_set (aldrew_set (aldrew_set (aldrew_set (aldrew_set (aldrew_set HS.out.src lo.1 lo.2.1) lo.1 lo.2.1) lo.1 lo.2.1) lo.1 lo.2.1) lo.1 lo.2.1) lo.1 lo.2.1)
        have ZR := Lib.hid zr
        have ZD := Lib.hid zd
        clear zr zd lo
        go_wp2_with fail
        obtain ⟨⟨q0, q1, q2, q3, q4, q5⟩, _⟩ := rowN6 ZR.out
        exact bodyPost_ret (v := .agg #[.int .i64 hi, .int .i64 y, .int .i64 z, .int .i64 (1 + s4), .int .i64 cc, .int .i64 0]) (by simp only [results, Tryd.results37]; simp [go_sem, q0, q1, q2, q3, q4, q5]) rfl ⟨⟨⟨hi, y, z, 1 + s4, cc, 0⟩, rfl⟩, ZD.out⟩
      · go_wp2_with fail
        refine (n_any sb (6) _ HS.out.src.1 (by omega)).mono ?_
        rintro e w23 ⟨⟨k, rfl, ka, kb, kc⟩, hD⟩
        replace HS := Lib.hid (HS.out.draw hD)
        clear hD
        have kd := kb (by omega)
        clear kb kc
        rcases (show k = 0 ∨ k = 1 ∨ k = 2 ∨ k = 3 ∨ k = 4 ∨ k = 5 by omega) with rfl | rfl | rfl | rfl | rfl | rfl
        · clear ka kd
          obtain ⟨⟨c0, c1, c2, c3, c4, c5⟩, f0, f1, f2, f3, f4, f5⟩ := rowN6 (show World.rowIs _ _ _ 6 (rowN [.int .i64 hi, .int .i64 y, .int .i64 z, .int .i64 (1 + s4), .int .i64 cc, .int .i64 0]) from HS.out.row)
          have hgl := HS.out.row.lt
          have hrl := HS.out.res.lt
          go_wp2_with fail
          refine region_L (fun V => DaS 40 w sb r g [.int .i64 0, .int .i64 0, .int .i64 0, .int .i64 0, .int .i64 0, .int .i64 0] [.int .i64 hi, .int .i64 y, .int .i64 z, .int .i64 (1 + s4), .int .i64 cc, .int .i64 0] V) 6 (by kernel_rfl) (HS.out.bel (Below.refl _ _).drew) (fun hHeld => ?_)
          clear c0 f0 c1 f1 c2 f2 c3 f3 c4 f4 c5 f5 hgl hrl
          refine takeL_do (i := 0) (v := (.pointer (some ⟨g, 0, none⟩))) rfl (by kernel_rfl) (by kernel_rfl) (by kernel_rfl) (by kernel_rfl) (fun _ _ _ h => h) (by rfl) ?_ (by assumption) ?_
          · intro w hSw
            go_simp
          simp only [Act.put, List.setIfInBounds_toArray, List.set_cons_zero, List.set_cons_succ]
          refine takeL_do (i := 1) (v := (.int .i64 (hi))) rfl (by kernel_rfl) (by kernel_rfl) (by kernel_rfl) (by kernel_rfl) (fun _ _ _ h => h) (by rfl) ?_ (by assumption) ?_
          · intro w hSw
            obtain ⟨⟨c0, c1, c2, c3, c4, c5⟩, _⟩ := rowN6 (show World.rowIs _ _ _ 6 (rowN [.int .i64 hi, .int .i64 y, .int .i64 z, .int .i64 (1 + s4), .int .i64 cc, .int .i64 0]) from hSw.row)
            go_simp
          simp only [Act.put, List.setIfInBounds_toArray, List.set_cons_zero, List.set_cons_succ]
          refine takeL_do (i := 2) (v := (.pointer (some ⟨sb, 0, none⟩))) rfl (by kernel_rfl) (by kernel_rfl) (by kernel_rfl) (by kernel_rfl) (fun _ _ _ h => h) (by rfl) ?_ (by assumption) ?_
          · intro w hSw
            go_simp
          simp only [Act.put, List.setIfInBounds_toArray, List.set_cons_zero, List.set_cons_succ]
          refine takeL_call (i := 3) rfl (by kernel_rfl) (fun K2 hK => ?_)
          go_simp
          refine (n_any sb 2 _ hHeld.src.1 (by omega)).mono ?_
          rintro e wz ⟨⟨d, rfl, da, db, dc⟩, hD⟩
          have dd := db (by omega)
          have hwr : IntKind.i64.wrap (hi + d) = hi + d := awrap_id (by omega) (by omega)
          clear db dc
          go_wp2_with fail
          refine hK.out _ _ (hHeld.draw hD) (fun hHeld2 => ?_)
          clear hK hHeld hD
          have hHeld := hHeld2
          clear hHeld2
          refine takeL_do (i := 4) (v := (.int .i64 (hi + d))) rfl (by kernel_rfl) (by kernel_rfl) (by kernel_rfl) (by kernel_rfl) (fun _ _ _ h => h) (by rfl) ?_ (by assumption) ?_
          · intro w hSw
            go_simp
          simp only [Act.put, List.setIfInBounds_toArray, List.set_cons_zero, List.set_cons_succ]
          refine takeL_do (i := 5) (v := (.pointer (some ⟨g, 1, none⟩))) rfl (by kernel_rfl) (by kernel_rfl) (by kernel_rfl) (by kernel_rfl) (fun _ _ _ h => h) (by rfl) ?_ (by assumption) ?_
          · intro w hSw
            go_simp
          simp only [Act.put, List.setIfInBounds_toArray, List.set_cons_zero, List.set_cons_succ]
          refine takeL_last rfl (by kernel_rfl) (by kernel_rfl) (fun K2 hK => ?_)
          replace HS := Lib.hid hHeld
          clear hHeld
          obtain ⟨⟨c0, c1, c2, c3, c4, c5⟩, f0, f1, f2, f3, f4, f5⟩ := rowN6 (show World.rowIs _ _ _ 6 (rowN [.int .i64 hi, .int .i64 y, .int .i64 z, .int .i64 (1 + s4), .int .i64 cc, .int .i64 0]) from HS.out.row)
          have hgl := HS.out.row.lt
          have hrl := HS.out.res.lt
          go_wp2_with fail
          refine hK.out _ _ ?_
          clear hK
          have HSL : Hid (DaS 40 w sb r g [.int .i64 0, .int .i64 0, .int .i64 0, .int .i64 0, .int .i64 0, .int .i64 0] [.int .i64 hi, .int .i64 (hi + d), .int .i64 z, .int .i64 (1 + s4), .int .i64 cc, .int .i64 0] (wz.setCell ⟨g, 1, none⟩ (.int .i64 (hi + d)))) := HS.out.set 1 (.int .i64 (hi + d)) (by simp)
          generalize wz.setCell ⟨g, 1, none⟩ (.int .i64 (hi + d)) = V9 at HSL ⊢
          replace HS := HSL
          clear HSL c0 f0 c1 f1 c2 f2 c3 f3 c4 f4 c5 f5 hgl hrl
          obtain ⟨⟨c0, c1, c2, c3, c4, c5⟩, f0, f1, f2, f3, f4, f5⟩ := rowN6 (show World.rowIs _ _ _ 6 (rowN [.int .i64 hi, .int .i64 (hi + d), .int .i64 z, .int .i64 (1 + s4), .int .i64 cc, .int .i64 0]) from HS.out.row)
          have hgl := HS.out.row.lt
          have hrl := HS.out.res.lt
          obtain ⟨⟨o0, o1, o2, o3, o4, o5⟩, z0, z1, z2, z3, z4, z5⟩ := rowN6 (show World.rowIs _ _ _ 6 (rowN [.int .i64 0, .int .i64 0, .int .i64 0, .int .i64 0, .int .i64 0, .int .i64 0]) from HS.out.res)
          have lo := HS.out.lo
          have zr := al6put (show World.rowIs _ r 40 6 (rowN [.int .i64 0, .int .i64 0, .int .i64 0, .int .i64 0, .int .i64 0, .int .i64 0]) from HS.out.res) rfl (.int .i64 (hi)) (.int .i64 (hi + d)) (.int .i64 (z)) (.int .i64 (1 + s4)) (.int .i64 (cc)) (.int .i64 (0))
          have zd : Drew sb w (((((((V9).setCell ⟨r, 0, none⟩ (.int .i64 (hi))).setCell ⟨r, 1, none⟩ (.int .i64 (hi + d))).setCell ⟨r, 2, none⟩ (.int .i64 (z))).setCell ⟨r, 3, none⟩ (.int .i64 (1 + s4))).setCell ⟨r, 4, none⟩ (.int .i64 (cc))).setCell ⟨r, 5, none⟩ (.int .i64 (0))) := (aldrew_set (aldrew_set (aldrew_set (aldrew_set (aldrew_set (aldrew_set HS.out.src lo.1 lo.2.1) lo.1 lo.2.1) lo.1 lo.2.1) lo.1 lo.2.1) lo.1 lo.2.1) lo.1 lo.2.1)
          have ZR := Lib.hid zr
          have ZD := Lib.hid zd
          clear zr zd lo
          go_wp2_with fail
          obtain ⟨⟨q0, q1, q2, q3, q4, q5⟩, _⟩ := rowN6 ZR.out
          exact bodyPost_ret (v := .agg #[.int .i64 hi, .int .i64 (hi + d), .int .i64 z, .int .i64 (1 + s4), .int .i64 cc, .int .i64 0]) (by simp only [results, Tryd.results37]; simp [go_sem, q0, q1, q2, q3, q4, q5]) rfl ⟨⟨⟨hi, hi + d, z, 1 + s4, cc, 0⟩, rfl⟩, ZD.out⟩
        · clear ka kd
          go_wp2_with fail
          refine (n_any sb (2) _ HS.out.src.1 (by omega)).mono ?_
          rintro e w24 ⟨⟨d, rfl, da, db, dc⟩, hD⟩
          replace HS := Lib.hid (HS.out.draw hD)
          clear hD
          have dd := db (by omega)
          clear db dc
          obtain ⟨⟨c0, c1, c2, c3, c4, c5⟩, f0, f1, f2, f3, f4, f5⟩ := rowN6 (show World.rowIs _ _ _ 6 (rowN [.int .i64 hi, .int .i64 y, .int .i64 z, .int .i64 (1 + s4), .int .i64 cc, .int .i64 0]) from HS.out.row)
          have hgl := HS.out.row.lt
          have hrl := HS.out.res.lt
          replace HS := Lib.hid (HS.out.set 0 (.int .i64 (1000000 + d)) (by simp))
          have HSL : Hid (DaS 40 w sb r g [.int .i64 0, .int .i64 0, .int .i64 0, .int .i64 0, .int .i64 0, .int .i64 0] [.int .i64 (1000000 + d), .int .i64 y, .int .i64 z, .int .i64 (1 + s4), .int .i64 cc, .int .i64 0] (w24.setCell ⟨g, 0, none⟩ (.int .i64 (1000000 + d)))) := HS.out
          replace HS := HSL
          clear HSL
          obtain ⟨⟨o0, o1, o2, o3, o4, o5⟩, z0, z1, z2, z3, z4, z5⟩ := rowN6 (show World.rowIs _ _ _ 6 (rowN [.int .i64 0, .int .i64 0, .int .i64 0, .int .i64 0, .int .i64 0, .int .i64 0]) from HS.out.res)
          have lo := HS.out.lo
          have zr := al6put (show World.rowIs _ r 40 6 (rowN [.int .i64 0, .int .i64 0, .int .i64 0, .int .i64 0, .int .i64 0, .int .i64 0]) from HS.out.res) rfl (.int .i64 (1000000 + d)) (.int .i64 (y)) (.int .i64 (z)) (.int .i64 (1 + s4)) (.int .i64 (cc)) (.int .i64 (0))
          have zd : Drew sb w ((((((((w24.setCell ⟨g, 0, none⟩ (.int .i64 (1000000 + d)))).setCell ⟨r, 0, none⟩ (.int .i64 (1000000 + d))).setCell ⟨r, 1, none⟩ (.int .i64 (y))).setCell ⟨r, 2, none⟩ (.int .i64 (z))).setCell ⟨r, 3, none⟩ (.int .i64 (1 + s4))).setCell ⟨r, 4, none⟩ (.int .i64 (cc))).setCell ⟨r, 5, none⟩ (.int .i64 (0))) := (aldrew_set (aldrew_set (aldrew_set (aldrew_set (aldrew_set (aldrew_set HS.out.src lo.1 lo.2.1) lo.1 lo.2.1) lo.1 lo.2.1) lo.1 lo.2.1) lo.1 lo.2.1) lo.1 lo.2.1)
          have ZR := Lib.hid zr
          have ZD := Lib.hid zd
          clear zr zd lo
          go_wp2_with fail
          obtain ⟨⟨q0, q1, q2, q3, q4, q5⟩, _⟩ := rowN6 ZR.out
          exact bodyPost_ret (v := .agg #[.int .i64 (1000000 + d), .int .i64 y, .int .i64 z, .int .i64 (1 + s4), .int .i64 cc, .int .i64 0]) (by simp only [results, Tryd.results37]; simp [go_sem, q0, q1, q2, q3, q4, q5]) rfl ⟨⟨⟨1000000 + d, y, z, 1 + s4, cc, 0⟩, rfl⟩, ZD.out⟩
        · clear ka kd
          go_wp2_with fail
          refine (n_any sb (2) _ HS.out.src.1 (by omega)).mono ?_
          rintro e w25 ⟨⟨d, rfl, da, db, dc⟩, hD⟩
          replace HS := Lib.hid (HS.out.draw hD)
          clear hD
          have dd := db (by omega)
          clear db dc
          obtain ⟨⟨c0, c1, c2, c3, c4, c5⟩, f0, f1, f2, f3, f4, f5⟩ := rowN6 (show World.rowIs _ _ _ 6 (rowN [.int .i64 hi, .int .i64 y, .int .i64 z, .int .i64 (1 + s4), .int .i64 cc, .int .i64 0]) from HS.out.row)
          have hgl := HS.out.row.lt
          have hrl := HS.out.res.lt
          replace HS := Lib.hid (HS.out.set 2 (.int .i64 (100 + d)) (by simp))
          have HSL : Hid (DaS 40 w sb r g [.int .i64 0, .int .i64 0, .int .i64 0, .int .i64 0, .int .i64 0, .int .i64 0] [.int .i64 hi, .int .i64 y, .int .i64 (100 + d), .int .i64 (1 + s4), .int .i64 cc, .int .i64 0] (w25.setCell ⟨g, 2, none⟩ (.int .i64 (100 + d)))) := HS.out
          replace HS := HSL
          clear HSL
          obtain ⟨⟨o0, o1, o2, o3, o4, o5⟩, z0, z1, z2, z3, z4, z5⟩ := rowN6 (show World.rowIs _ _ _ 6 (rowN [.int .i64 0, .int .i64 0, .int .i64 0, .int .i64 0, .int .i64 0, .int .i64 0]) from HS.out.res)
          have lo := HS.out.lo
          have zr := al6put (show World.rowIs _ r 40 6 (rowN [.int .i64 0, .int .i64 0, .int .i64 0, .int .i64 0, .int .i64 0, .int .i64 0]) from HS.out.res) rfl (.int .i64 (hi)) (.int .i64 (y)) (.int .i64 (100 + d)) (.int .i64 (1 + s4)) (.int .i64 (cc)) (.int .i64 (0))
          have zd : Drew sb w ((((((((w25.setCell ⟨g, 2, none⟩ (.int .i64 (100 + d)))).setCell ⟨r, 0, none⟩ (.int .i64 (hi))).setCell ⟨r, 1, none⟩ (.int .i64 (y))).setCell ⟨r, 2, none⟩ (.int .i64 (100 + d))).setCell ⟨r, 3, none⟩ (.int .i64 (1 + s4))).setCell ⟨r, 4, none⟩ (.int .i64 (cc))).setCell ⟨r, 5, none⟩ (.int .i64 (0))) := (aldrew_set (aldrew_set (aldrew_set (aldrew_set (aldrew_set (aldrew_set HS.out.src lo.1 lo.2.1) lo.1 lo.2.1) lo.1 lo.2.1) lo.1 lo.2.1) lo.1 lo.2.1) lo.1 lo.2.1)
          have ZR := Lib.hid zr
          have ZD := Lib.hid zd
          clear zr zd lo
          go_wp2_with fail
          obtain ⟨⟨q0, q1, q2, q3, q4, q5⟩, _⟩ := rowN6 ZR.out
          exact bodyPost_ret (v := .agg #[.int .i64 hi, .int .i64 y, .int .i64 (100 + d), .int .i64 (1 + s4), .int .i64 cc, .int .i64 0]) (by simp only [results, Tryd.results37]; simp [go_sem, q0, q1, q2, q3, q4, q5]) rfl ⟨⟨⟨hi, y, 100 + d, 1 + s4, cc, 0⟩, rfl⟩, ZD.out⟩
        · clear ka kd
          obtain ⟨⟨c0, c1, c2, c3, c4, c5⟩, f0, f1, f2, f3, f4, f5⟩ := rowN6 (show World.rowIs _ _ _ 6 (rowN [.int .i64 hi, .int .i64 y, .int .i64 z, .int .i64 (1 + s4), .int .i64 cc, .int .i64 0]) from HS.out.row)
          have hgl := HS.out.row.lt
          have hrl := HS.out.res.lt
          replace HS := Lib.hid (HS.out.set 4 (.int .i64 (z + 1)) (by simp))
          have HSL : Hid (DaS 40 w sb r g [.int .i64 0, .int .i64 0, .int .i64 0, .int .i64 0, .int .i64 0, .int .i64 0] [.int .i64 hi, .int .i64 y, .int .i64 z, .int .i64 (1 + s4), .int .i64 (z + 1), .int .i64 0] (w23.setCell ⟨g, 4, none⟩ (.int .i64 (z + 1)))) := HS.out
          replace HS := HSL
          clear HSL
          obtain ⟨⟨o0, o1, o2, o3, o4, o5⟩, z0, z1, z2, z3, z4, z5⟩ := rowN6 (show World.rowIs _ _ _ 6 (rowN [.int .i64 0, .int .i64 0, .int .i64 0, .int .i64 0, .int .i64 0, .int .i64 0]) from HS.out.res)
          have lo := HS.out.lo
          have zr := al6put (show World.rowIs _ r 40 6 (rowN [.int .i64 0, .int .i64 0, .int .i64 0, .int .i64 0, .int .i64 0, .int .i64 0]) from HS.out.res) rfl (.int .i64 (hi)) (.int .i64 (y)) (.int .i64 (z)) (.int .i64 (1 + s4)) (.int .i64 (z + 1)) (.int .i64 (0))
          have zd : Drew sb w ((((((((w23.setCell ⟨g, 4, none⟩ (.int .i64 (z + 1)))).setCell ⟨r, 0, none⟩ (.int .i64 (hi))).setCell ⟨r, 1, none⟩ (.int .i64 (y))).setCell ⟨r, 2, none⟩ (.int .i64 (z))).setCell ⟨r, 3, none⟩ (.int .i64 (1 + s4))).setCell ⟨r, 4, none⟩ (.int .i64 (z + 1))).setCell ⟨r, 5, none⟩ (.int .i64 (0))) := (aldrew_set (aldrew_set (aldrew_set (aldrew_set (aldrew_set (aldrew_set HS.out.src lo.1 lo.2.1) lo.1 lo.2.1) lo.1 lo.2.1) lo.1 lo.2.1) lo.1 lo.2.1) lo.1 lo.2.1)
          have ZR := Lib.hid zr
          have ZD := Lib.hid zd
          clear zr zd lo
          go_wp2_with fail
          obtain ⟨⟨q0, q1, q2, q3, q4, q5⟩, _⟩ := rowN6 ZR.out
          exact bodyPost_ret (v := .agg #[.int .i64 hi, .int .i64 y, .int .i64 z, .int .i64 (1 + s4), .int .i64 (z + 1), .int .i64 0]) (by simp only [results, Tryd.results37]; simp [go_sem, q0, q1, q2, q3, q4, q5]) rfl ⟨⟨⟨hi, y, z, 1 + s4, z + 1, 0⟩, rfl⟩, ZD.out⟩
        · clear ka kd
          go_wp2_with fail
          refine (n_any sb (2) _ HS.out.src.1 (by omega)).mono ?_
          rintro e w26 ⟨⟨d, rfl, da, db, dc⟩, hD⟩
          replace HS := Lib.hid (HS.out.draw hD)
          clear hD
          have dd := db (by omega)
          clear db dc
          obtain ⟨⟨c0, c1, c2, c3, c4, c5⟩, f0, f1, f2, f3, f4, f5⟩ := rowN6 (show World.rowIs _ _ _ 6 (rowN [.int .i64 hi, .int .i64 y, .int .i64 z, .int .i64 (1 + s4), .int .i64 cc, .int .i64 0]) from HS.out.row)
          have hgl := HS.out.row.lt
          have hrl := HS.out.res.lt
          replace HS := Lib.hid (HS.out.set 3 (.int .i64 (5 * d)) (by simp))
          have HSL : Hid (DaS 40 w sb r g [.int .i64 0, .int .i64 0, .int .i64 0, .int .i64 0, .int .i64 0, .int .i64 0] [.int .i64 hi, .int .i64 y, .int .i64 z, .int .i64 (5 * d), .int .i64 cc, .int .i64 0] (w26.setCell ⟨g, 3, none⟩ (.int .i64 (5 * d)))) := HS.out
          replace HS := HSL
          clear HSL
          obtain ⟨⟨o0, o1, o2, o3, o4, o5⟩, z0, z1, z2, z3, z4, z5⟩ := rowN6 (show World.rowIs _ _ _ 6 (rowN [.int .i64 0, .int .i64 0, .int .i64 0, .int .i64 0, .int .i64 0, .int .i64 0]) from HS.out.res)
          have lo := HS.out.lo
          have zr := al6put (show World.rowIs _ r 40 6 (rowN [.int .i64 0, .int .i64 0, .int .i64 0, .int .i64 0, .int .i64 0, .int .i64 0]) from HS.out.res) rfl (.int .i64 (hi)) (.int .i64 (y)) (.int .i64 (z)) (.int .i64 (5 * d)) (.int .i64 (cc)) (.int .i64 (0))
          have zd : Drew sb w ((((((((w26.setCell ⟨g, 3, none⟩ (.int .i64 (5 * d)))).setCell ⟨r, 0, none⟩ (.int .i64 (hi))).setCell ⟨r, 1, none⟩ (.int .i64 (y))).setCell ⟨r, 2, none⟩ (.int .i64 (z))).setCell ⟨r, 3, none⟩ (.int .i64 (5 * d))).setCell ⟨r, 4, none⟩ (.int .i64 (cc))).setCell ⟨r, 5, none⟩ (.int .i64 (0))) := (aldrew_set (aldrew_set (aldrew_set (aldrew_set (aldrew_set (aldrew_set HS.out.src lo.1 lo.2.1) lo.1 lo.2.1) lo.1 lo.2.1) lo.1 lo.2.1) lo.1 lo.2.1) lo.1 lo.2.1)
          have ZR := Lib.hid zr
          have ZD := Lib.hid zd
          clear zr zd lo
          go_wp2_with fail
          obtain ⟨⟨q0, q1, q2, q3, q4, q5⟩, _⟩ := rowN6 ZR.out
          exact bodyPost_ret (v := .agg #[.int .i64 hi, .int .i64 y, .int .i64 z, .int .i64 (5 * d), .int .i64 cc, .int .i64 0]) (by simp only [results, Tryd.results37]; simp [go_sem, q0, q1, q2, q3, q4, q5]) rfl ⟨⟨⟨hi, y, z, 5 * d, cc, 0⟩, rfl⟩, ZD.out⟩
        · clear ka kd
          go_wp2_with fail
          refine (n_any sb (2) _ HS.out.src.1 (by omega)).mono ?_
          rintro e w27 ⟨⟨d, rfl, da, db, dc⟩, hD⟩
          replace HS := Lib.hid (HS.out.draw hD)
          clear hD
          have dd := db (by omega)
          clear db dc
          obtain ⟨⟨c0, c1, c2, c3, c4, c5⟩, f0, f1, f2, f3, f4, f5⟩ := rowN6 (show World.rowIs _ _ _ 6 (rowN [.int .i64 hi, .int .i64 y, .int .i64 z, .int .i64 (1 + s4), .int .i64 cc, .int .i64 0]) from HS.out.row)
          have hgl := HS.out.row.lt
          have hrl := HS.out.res.lt
          replace HS := Lib.hid (HS.out.set 5 (.int .i64 (1000 + d)) (by simp))
          have HSL : Hid (DaS 40 w sb r g [.int .i64 0, .int .i64 0, .int .i64 0, .int .i64 0, .int .i64 0, .int .i64 0] [.int .i64 hi, .int .i64 y, .int .i64 z, .int .i64 (1 + s4), .int .i64 cc, .int .i64 (1000 + d)] (w27.setCell ⟨g, 5, none⟩ (.int .i64 (1000 + d)))) := HS.out
          replace HS := HSL
          clear HSL
          obtain ⟨⟨o0, o1, o2, o3, o4, o5⟩, z0, z1, z2, z3, z4, z5⟩ := rowN6 (show World.rowIs _ _ _ 6 (rowN [.int .i64 0, .int .i64 0, .int .i64 0, .int .i64 0, .int .i64 0, .int .i64 0]) from HS.out.res)
          have lo := HS.out.lo
          have zr := al6put (show World.rowIs _ r 40 6 (rowN [.int .i64 0, .int .i64 0, .int .i64 0, .int .i64 0, .int .i64 0, .int .i64 0]) from HS.out.res) rfl (.int .i64 (hi)) (.int .i64 (y)) (.int .i64 (z)) (.int .i64 (1 + s4)) (.int .i64 (cc)) (.int .i64 (1000 + d))
          have zd : Drew sb w ((((((((w27.setCell ⟨g, 5, none⟩ (.int .i64 (1000 + d)))).setCell ⟨r, 0, none⟩ (.int .i64 (hi))).setCell ⟨r, 1, none⟩ (.int .i64 (y))).setCell ⟨r, 2, none⟩ (.int .i64 (z))).setCell ⟨r, 3, none⟩ (.int .i64 (1 + s4))).setCell ⟨r, 4, none⟩ (.int .i64 (cc))).setCell ⟨r, 5, none⟩ (.int .i64 (1000 + d))) := (aldrew_set (aldrew_set (aldrew_set (aldrew_set (aldrew_set (aldrew_set HS.out.src lo.1 lo.2.1) lo.1 lo.2.1) lo.1 lo.2.1) lo.1 lo.2.1) lo.1 lo.2.1) lo.1 lo.2.1)
          have ZR := Lib.hid zr
          have ZD := Lib.hid zd
          clear zr zd lo
          go_wp2_with fail
          obtain ⟨⟨q0, q1, q2, q3, q4, q5⟩, _⟩ := rowN6 ZR.out
          exact bodyPost_ret (v := .agg #[.int .i64 hi, .int .i64 y, .int .i64 z, .int .i64 (1 + s4), .int .i64 cc, .int .i64 (1000 + d)]) (by simp only [results, Tryd.results37]; simp [go_sem, q0, q1, q2, q3, q4, q5]) rfl ⟨⟨⟨hi, y, z, 1 + s4, cc, 1000 + d⟩, rfl⟩, ZD.out⟩
    · go_wp2_with fail
      refine (n_any sb (6) _ HS.out.src.1 (by omega)).mono ?_
      rintro e w28 ⟨⟨s6, rfl, s6a, s6b, s6c⟩, hD⟩
      replace HS := Lib.hid (HS.out.draw hD)
      clear hD
      have s6d := s6b (by omega)
      clear s6b s6c
      obtain ⟨V29, hV⟩ : ∃ Z, Z = w28.setCell ⟨g, 5, none⟩ (.int .i64 (s6)) := ⟨_, rfl⟩
      have HV : Hid (V29 = w28.setCell ⟨g, 5, none⟩ (.int .i64 (s6))) := hV
      have HS2 : Hid (DaS 40 w sb r g [.int .i64 0, .int .i64 0, .int .i64 0, .int .i64 0, .int .i64 0, .int .i64 0] [.int .i64 hi, .int .i64 y, .int .i64 z, .int .i64 (1 + s4), .int .i64 cc, .int .i64 s6] V29) := by show DaS _ _ _ _ _ _ _ _; rw [hV]; exact HS.out.set 5 (.int .i64 (s6)) (by simp)
      clear hV
      obtain ⟨⟨c0, c1, c2, c3, c4, c5⟩, f0, f1, f2, f3, f4, f5⟩ := rowN6 (show World.rowIs _ _ _ 6 (rowN [.int .i64 hi, .int .i64 y, .int .i64 z, .int .i64 (1 + s4), .int .i64 cc, .int .i64 0]) from HS.out.row)
      have hgl := HS.out.row.lt
      have hrl := HS.out.res.lt
      go_wp2_with fail
      rw [← HV.out]
      clear HV
      replace HS := HS2
      clear HS2
      clear c0 f0 c1 f1 c2 f2 c3 f3 c4 f4 c5 f5 hgl hrl
      refine (one_any sb 15 _ HS.out.src.1 (by omega)).mono ?_
      rintro e w30 ⟨⟨bb, rfl⟩, hD⟩
      replace HS := Lib.hid (HS.out.draw hD)
      clear hD
      cases bb
      · obtain ⟨⟨c0, c1, c2, c3, c4, c5⟩, f0, f1, f2, f3, f4, f5⟩ := rowN6 (show World.rowIs _ _ _ 6 (rowN [.int .i64 hi, .int .i64 y, .int .i64 z, .int .i64 (1 + s4), .int .i64 cc, .int .i64 s6]) from HS.out.row)
        have hgl := HS.out.row.lt
        have hrl := HS.out.res.lt
        obtain ⟨⟨o0, o1, o2, o3, o4, o5⟩, z0, z1, z2, z3, z4, z5⟩ := rowN6 (show World.rowIs _ _ _ 6 (rowN [.int .i64 0, .int .i64 0, .int .i64 0, .int .i64 0, .int .i64 0, .int .i64 0]) from HS.out.res)
        have lo := HS.out.lo
        have zr := al6put (show World.rowIs _ r 40 6 (rowN [.int .i64 0, .int .i64 0, .int .i64 0, .int .i64 0, .int .i64 0, .int .i64 0]) from HS.out.res) rfl (.int .i64 (hi)) (.int .i64 (y)) (.int .i64 (z)) (.int .i64 (1 + s4)) (.int .i64 (cc)) (.int .i64 (s6))
        have zd : Drew sb w (((((((w30).setCell ⟨r, 0, none⟩ (.int .i64 (hi))).setCell ⟨r, 1, none⟩ (.int .i64 (y))).setCell ⟨r, 2, none⟩ (.int .i64 (z))).setCell ⟨r, 3, none⟩ (.int .i64 (1 + s4))).setCell ⟨r, 4, none⟩ (.int .i64 (cc))).setCell ⟨r, 5, none⟩ (.int .i64 (s6))) := (aldrew_set (aldrew_set (aldrew_set (aldrew_set (aldrew_set (aldrew_set HS.out.src lo.1 lo.2.1) lo.1 lo.2.1) lo.1 lo.2.1) lo.1 lo.2.1) lo.1 lo.2.1) lo.1 lo.2.1)
        have ZR := Lib.hid zr
        have ZD := Lib.hid zd
        clear zr zd lo
        go_wp2_with fail
        obtain ⟨⟨q0, q1, q2, q3, q4, q5⟩, _⟩ := rowN6 ZR.out
        exact bodyPost_ret (v := .agg #[.int .i64 hi, .int .i64 y, .int .i64 z, .int .i64 (1 + s4), .int .i64 cc, .int .i64 s6]) (by simp only [results, Tryd.results37]; simp [go_sem, q0, q1, q2, q3, q4, q5]) rfl ⟨⟨⟨hi, y, z, 1 + s4, cc, s6⟩, rfl⟩, ZD.out⟩
      · go_wp2_with fail
        refine (n_any sb (6) _ HS.out.src.1 (by omega)).mono ?_
        rintro e w31 ⟨⟨k, rfl, ka, kb, kc⟩, hD⟩
        replace HS := Lib.hid (HS.out.draw hD)
        clear hD
        have kd := kb (by omega)
        clear kb kc
        rcases (show k = 0 ∨ k = 1 ∨ k = 2 ∨ k = 3 ∨ k = 4 ∨ k = 5 by omega) with rfl | rfl | rfl | rfl | rfl | rfl
        · clear ka kd
          obtain ⟨⟨c0, c1, c2, c3, c4, c5⟩, f0, f1, f2, f3, f4, f5⟩ := rowN6 (show World.rowIs _ _ _ 6 (rowN [.int .i64 hi, .int .i64 y, .int .i64 z, .int .i64 (1 + s4), .int .i64 cc, .int .i64 s6]) from HS.out.row)
          have hgl := HS.out.row.lt
          have hrl := HS.out.res.lt
          go_wp2_with fail
          refine region_L (fun V => DaS 40 w sb r g [.int .i64 0, .int .i64 0, .int .i64 0, .int .i64 0, .int .i64 0, .int .i64 0] [.int .i64 hi, .int .i64 y, .int .i64 z, .int .i64 (1 + s4), .int .i64 cc, .int .i64 s6] V) 6 (by kernel_rfl) (HS.out.bel (Below.refl _ _).drew) (fun hHeld => ?_)
          clear c0 f0 c1 f1 c2 f2 c3 f3 c4 f4 c5 f5 hgl hrl
          refine takeL_do (i := 0) (v := (.pointer (some ⟨g, 0, none⟩))) rfl (by kernel_rfl) (by kernel_rfl) (by kernel_rfl) (by kernel_rfl) (fun _ _ _ h => h) (by rfl) ?_ (by assumption) ?_
          · intro w hSw
            go_simp
          simp only [Act.put, List.setIfInBounds_toArray, List.set_cons_zero, List.set_cons_succ]
          refine takeL_do (i := 1) (v := (.int .i64 (hi))) rfl (by kernel_rfl) (by kernel_rfl) (by kernel_rfl) (by kernel_rfl) (fun _ _ _ h => h) (by rfl) ?_ (by assumption) ?_
          · intro w hSw
            obtain ⟨⟨c0, c1, c2, c3, c4, c5⟩, _⟩ := rowN6 (show World.rowIs _ _ _ 6 (rowN [.int .i64 hi, .int .i64 y, .int .i64 z, .int .i64 (1 + s4), .int .i64 cc, .int .i64 s6]) from hSw.row)
            go_simp
          simp only [Act.put, List.setIfInBounds_toArray, List.set_cons_zero, List.set_cons_succ]
          refine takeL_do (i := 2) (v := (.pointer (some ⟨sb, 0, none⟩))) rfl (by kernel_rfl) (by kernel_rfl) (by kernel_rfl) (by kernel_rfl) (fun _ _ _ h => h) (by rfl) ?_ (by assumption) ?_
          · intro w hSw
            go_simp
          simp only [Act.put, List.setIfInBounds_toArray, List.set_cons_zero, List.set_cons_succ]
          refine takeL_call (i := 3) rfl (by kernel_rfl) (fun K2 hK => ?_)
          go_simp
          refine (n_any sb 2 _ hHeld.src.1 (by omega)).mono ?_
          rintro e wz ⟨⟨d, rfl, da, db, dc⟩, hD⟩
          have dd := db (by omega)
          have hwr : IntKind.i64.wrap (hi + d) = hi + d := awrap_id (by omega) (by omega)
          clear db dc
          go_wp2_with fail
          refine hK.out _ _ (hHeld.draw hD) (fun hHeld2 => ?_)
          clear hK hHeld hD
          have hHeld := hHeld2
          clear hHeld2
          refine takeL_do (i := 4) (v := (.int .i64 (hi + d))) rfl (by kernel_rfl) (by kernel_rfl) (by kernel_rfl) (by kernel_rfl) (fun _ _ _ h => h) (by rfl) ?_ (by assumption) ?_
          · intro w hSw
            go_simp
          simp only [Act.put, List.setIfInBounds_toArray, List.set_cons_zero, List.set_cons_succ]
          refine takeL_do (i := 5) (v := (.pointer (some ⟨g, 1, none⟩))) rfl (by kernel_rfl) (by kernel_rfl) (by kernel_rfl) (by kernel_rfl) (fun _ _ _ h => h) (by rfl) ?_ (by assumption) ?_
          · intro w hSw
            go_simp
          simp only [Act.put, List.setIfInBounds_toArray, List.set_cons_zero, List.set_cons_succ]
          refine takeL_last rfl (by kernel_rfl) (by kernel_rfl) (fun K2 hK => ?_)
          replace HS := Lib.hid hHeld
          clear hHeld
          obtain ⟨⟨c0, c1, c2, c3, c4, c5⟩, f0, f1, f2, f3, f4, f5⟩ := rowN6 (show World.rowIs _ _ _ 6 (rowN [.int .i64 hi, .int .i64 y, .int .i64 z, .int .i64 (1 + s4), .int .i64 cc, .int .i64 s6]) from HS.out.row)
          have hgl := HS.out.row.lt
          have hrl := HS.out.res.lt
          go_wp2_with fail
          refine hK.out _ _ ?_
          clear hK
          have HSL : Hid (DaS 40 w sb r g [.int .i64 0, .int .i64 0, .int .i64 0, .int .i64 0, .int .i64 0, .int .i64 0] [.int .i64 hi, .int .i64 (hi + d), .int .i64 z, .int .i64 (1 + s4), .int .i64 cc, .int .i64 s6] (wz.setCell ⟨g, 1, none⟩ (.int .i64 (hi + d)))) := HS.out.set 1 (.int .i64 (hi + d)) (by simp)
          generalize wz.setCell ⟨g, 1, none⟩ (.int .i64 (hi + d)) = V9 at HSL ⊢
          replace HS := HSL
          clear HSL c0 f0 c1 f1 c2 f2 c3 f3 c4 f4 c5 f5 hgl hrl
          obtain ⟨⟨c0, c1, c2, c3, c4, c5⟩, f0, f1, f2, f3, f4, f5⟩ := rowN6 (show World.rowIs _ _ _ 6 (rowN [.int .i64 hi, .int .i64 (hi + d), .int .i64 z, .int .i64 (1 + s4), .int .i64 cc, .int .i64 s6]) from HS.out.row)
          have hgl := HS.out.row.lt
          have hrl := HS.out.res.lt
          obtain ⟨⟨o0, o1, o2, o3, o4, o5⟩, z0, z1, z2, z3, z4, z5⟩ := rowN6 (show World.rowIs _ _ _ 6 (rowN [.int .i64 0, .int .i64 0, .int .i64 0, .int .i64 0, .int .i64 0, .int .i64 0]) from HS.out.res)
          have lo := HS.out.lo
          have zr := al6put (show World.rowIs _ r 40 6 (rowN [.int .i64 0, .int .i64 0, .int .i64 0, .int .i64 0, .int .i64 0, .int .i64 0]) from HS.out.res) rfl (.int .i64 (hi)) (.int .i64 (hi + d)) (.int .i64 (z)) (.int .i64 (1 + s4)) (.int .i64 (cc)) (.int .i64 (s6))
          have zd : Drew sb w (((((((V9).setCell ⟨r, 0, none⟩ (.int .i64 (hi))).setCell ⟨r, 1, none⟩ (.int .i64 (hi + d))).setCell ⟨r, 2, none⟩ (.int .i64 (z))).setCell ⟨r, 3, none⟩ (.int .i64 (1 + s4))).setCell ⟨r, 4, none⟩ (.int .i64 (cc))).setCell ⟨r, 5, none⟩ (.int .i64 (s6))) := (aldrew_set (aldrew_set (aldrew_set (aldrew_set (aldrew_set (aldrew_set HS.out.src lo.1 lo.2.1) lo.1 lo.2.1) lo.1 lo.2.1) lo.1 lo.2.1) lo.1 lo.2.1) lo.1 lo.2.1)
          have ZR := Lib.hid zr
          have ZD := Lib.hid zd
          clear zr zd lo
          go_wp2_with fail
          obtain ⟨⟨q0, q1, q2, q3, q4, q5⟩, _⟩ := rowN6 ZR.out
          exact bodyPost_ret (v := .agg #[.int .i64 hi, .int .i64 (hi + d), .int .i64 z, .int .i64 (1 + s4), .int .i64 cc, .int .i64 s6]) (by simp only [results, Tryd.results37]; simp [go_sem, q0, q1, q2, q3, q4, q5]) rfl ⟨⟨⟨hi, hi + d, z, 1 + s4, cc, s6⟩, rfl⟩, ZD.out⟩
        · clear ka kd
          go_wp2_with fail
          refine (n_any sb (2) _ HS.out.src.1 (by omega)).mono ?_
          rintro e w32 ⟨⟨d, rfl, da, db, dc⟩, hD⟩
          replace HS := Lib.hid (HS.out.draw hD)
          clear hD
          have dd := db (by omega)
          clear db dc
          obtain ⟨⟨c0, c1, c2, c3, c4, c5⟩, f0, f1, f2, f3, f4, f5⟩ := rowN6 (show World.rowIs _ _ _ 6 (rowN [.int .i64 hi, .int .i64 y, .int .i64 z, .int .i64 (1 + s4), .int .i64 cc, .int .i64 s6]) from HS.out.row)
          have hgl := HS.out.row.lt
          have hrl := HS.out.res.lt
          replace HS := Lib.hid (HS.out.set 0 (.int .i64 (1000000 + d)) (by simp))
          have HSL : Hid (DaS 40 w sb r g [.int .i64 0, .int .i64 0, .int .i64 0, .int .i64 0, .int .i64 0, .int .i64 0] [.int .i64 (1000000 + d), .int .i64 y, .int .i64 z, .int .i64 (1 + s4), .int .i64 cc, .int .i64 s6] (w32.setCell ⟨g, 0, none⟩ (.int .i64 (1000000 + d)))) := HS.out
          replace HS := HSL
          clear HSL
          obtain ⟨⟨o0, o1, o2, o3, o4, o5⟩, z0, z1, z2, z3, z4, z5⟩ := rowN6 (show World.rowIs _ _ _ 6 (rowN [.int .i64 0, .int .i64 0, .int .i64 0, .int .i64 0, .int .i64 0, .int .i64 0]) from HS.out.res)
          have lo := HS.out.lo
          have zr := al6put (show World.rowIs _ r 40 6 (rowN [.int .i64 0, .int .i64 0, .int .i64 0, .int .i64 0, .int .i64 0, .int .i64 0]) from HS.out.res) rfl (.int .i64 (1000000 + d)) (.int .i64 (y)) (.int .i64 (z)) (.int .i64 (1 + s4)) (.int .i64 (cc)) (.int .i64 (s6))
          have zd : Drew sb w ((((((((w32.setCell ⟨g, 0, none⟩ (.int .i64 (1000000 + d)))).setCell ⟨r, 0, none⟩ (.int .i64 (1000000 + d))).setCell ⟨r, 1, none⟩ (.int .i64 (y))).setCell ⟨r, 2, none⟩ (.int .i64 (z))).setCell ⟨r, 3, none⟩ (.int .i64 (1 + s4))).setCell ⟨r, 4, none⟩ (.int .i64 (cc))).setCell ⟨r, 5, none⟩ (.int .i64 (s6))) := (aldrew_set (aldrew_set (aldrew_set (aldrew_set (aldrew_set (aldrew_set HS.out.src lo.1 lo.2.1) lo.1 lo.2.1) lo.1 lo.2.1) lo.1 lo.2.1) lo.1 lo.2.1) lo.1 lo.2.1)
          have ZR := Lib.hid zr
          have ZD := Lib.hid zd
          clear zr zd lo
          go_wp2_with fail
          obtain ⟨⟨q0, q1, q2, q3, q4, q5⟩, _⟩ := rowN6 ZR.out
          exact bodyPost_ret (v := .agg #[.int .i64 (1000000 + d), .int .i64 y, .int .i64 z, .int .i64 (1 + s4), .int .i64 cc, .int .i64 s6]) (by simp only [results, Tryd.results37]; simp [go_sem, q0, q1, q2, q3, q4, q5]) rfl ⟨⟨⟨1000000 + d, y, z, 1 + s4, cc, s6⟩, rfl⟩, ZD.out⟩
        · clear ka kd
          go_wp2_with fail
          refine (n_any sb (2) _ HS.out.src.1 (by omega)).mono ?_
          rintro e w33 ⟨⟨d, rfl, da, db, dc⟩, hD⟩
          replace HS := Lib.hid (HS.out.draw hD)
          clear hD
          have dd := db (by omega)
          clear db dc
          obtain ⟨⟨c0, c1, c2, c3, c4, c5⟩, f0, f1, f2, f3, f4, f5⟩ := rowN6 (show World.rowIs _ _ _ 6 (rowN [.int .i64 hi, .int .i64 y, .int .i64 z, .int .i64 (1 + s4), .int .i64 cc, .int .i64 s6]) from HS.out.row)
          have hgl := HS.out.row.lt
          have hrl := HS.out.res.lt
          replace HS := Lib.hid (HS.out.set 2 (.int .i64 (100 + d)) (by simp))
          have HSL : Hid (DaS 40 w sb r g [.int .i64 0, .int .i64 0, .int .i64 0, .int .i64 0, .int .i64 0, .int .i64 0] [.int .i64 hi, .int .i64 y, .int .i64 (100 + d), .int .i64 (1 + s4), .int .i64 cc, .int .i64 s6] (w33.setCell ⟨g, 2, none⟩ (.int .i64 (100 + d)))) := HS.out
          replace HS := HSL
          clear HSL
          obtain ⟨⟨o0, o1, o2, o3, o4, o5⟩, z0, z1, z2, z3, z4, z5⟩ := rowN6 (show World.rowIs _ _ _ 6 (rowN [.int .i64 0, .int .i64 0, .int .i64 0, .int .i64 0, .int .i64 0, .int .i64 0]) from HS.out.res)
          have lo := HS.out.lo
          have zr := al6put (show World.rowIs _ r 40 6 (rowN [.int .i64 0, .int .i64 0, .int .i64 0, .int .i64 0, .int .i64 0, .int .i64 0]) from HS.out.res) rfl (.int .i64 (hi)) (.int .i64 (y)) (.int .i64 (100 + d)) (.int .i64 (1 + s4)) (.int .i64 (cc)) (.int .i64 (s6))
          have zd : Drew sb w ((((((((w33.setCell ⟨g, 2, none⟩ (.int .i64 (100 + d)))).setCell ⟨r, 0, none⟩ (.int .i64 (hi))).setCell ⟨r, 1, none⟩ (.int .i64 (y))).setCell ⟨r, 2, none⟩ (.int .i64 (100 + d))).setCell ⟨r, 3, none⟩ (.int .i64 (1 + s4))).setCell ⟨r, 4, none⟩ (.int .i64 (cc))).setCell ⟨r, 5, none⟩ (.int .i64 (s6))) := (aldrew_set (aldrew_set (aldrew_set (aldrew_set (aldrew_set (aldrew_set HS.out.src lo.1 lo.2.1) lo.1 lo.2.1) lo.1 lo.2.1) lo.1 lo.2.1) lo.1 lo.2.1) lo.1 lo.2.1)
          have ZR := Lib.hid zr
          have ZD := Lib.hid zd
          clear zr zd lo
          go_wp2_with fail
          obtain ⟨⟨q0, q1, q2, q3, q4, q5⟩, _⟩ := rowN6 ZR.out
          exact bodyPost_ret (v := .agg #[.int .i64 hi, .int .i64 y, .int .i64 (100 + d), .int .i64 (1 + s4), .int .i64 cc, .int .i64 s6]) (by simp only [results, Tryd.results37]; simp [go_sem, q0, q1, q2, q3, q4, q5]) rfl ⟨⟨⟨hi, y, 100 + d, 1 + s4, cc, s6⟩, rfl⟩, ZD.out⟩
        · clear ka kd
          obtain ⟨⟨c0, c1, c2, c3, c4, c5⟩, f0, f1, f2, f3, f4, f5⟩ := rowN6 (show World.rowIs _ _ _ 6 (rowN [.int .i64 hi, .int .i64 y, .int .i64 z, .int .i64 (1 + s4), .int .i64 cc, .int .i64 s6]) from HS.out.row)
          have hgl := HS.out.row.lt
          have hrl := HS.out.res.lt
          replace HS := Lib.hid (HS.out.set 4 (.int .i64 (z + 1)) (by simp))
          have HSL : Hid (DaS 40 w sb r g [.int .i64 0, .int .i64 0, .int .i64 0, .int .i64 0, .int .i64 0, .int .i64 0] [.int .i64 hi, .int .i64 y, .int .i64 z, .int .i64 (1 + s4), .int .i64 (z + 1), .int .i64 s6] (w31.setCell ⟨g, 4, none⟩ (.int .i64 (z + 1)))) := HS.out
          replace HS := HSL
          clear HSL
          obtain ⟨⟨o0, o1, o2, o3, o4, o5⟩, z0, z1, z2, z3, z4, z5⟩ := rowN6 (show World.rowIs _ _ _ 6 (rowN [.int .i64 0, .int .i64 0, .int .i64 0, .int .i64 0, .int .i64 0, .int .i64 0]) from HS.out.res)
          have lo := HS.out.lo
          have zr := al6put (show World.rowIs _ r 40 6 (rowN [.int .i64 0, .int .i64 0, .int .i64 0, .int .i64 0, .int .i64 0, .int .i64 0]) from HS.out.res) rfl (.int .i64 (hi)) (.int .i64 (y)) (.int .i64 (z)) (.int .i64 (1 + s4)) (.int .i64 (z + 1)) (.int .i64 (s6))
          have zd : Drew sb w ((((((((w31.setCell ⟨g, 4, none⟩ (.int .i64 (z + 1)))).setCell ⟨r, 0, none⟩ (.int .i64 (hi))).setCell ⟨r, 1, none⟩ (.int .i64 (y))).setCell ⟨r, 2, none⟩ (.int .i64 (z))).setCell ⟨r, 3, none⟩ (.int .i64 (1 + s4))).setCell ⟨r, 4, none⟩ (.int .i64 (z + 1))).setCell ⟨r, 5, none⟩ (.int .i64 (s6))) := (aldrew_set (aldrew_set (aldrew_set (aldrew_set (aldrew_set (aldrew_set HS.out.src lo.1 lo.2.1) lo.1 lo.2.1) lo.1 lo.2.1) lo.1 lo.2.1) lo.1 lo.2.1) lo.1 lo.2.1)
          have ZR := Lib.hid zr
          have ZD := Lib.hid zd
          clear zr zd lo
          go_wp2_with fail
          obtain ⟨⟨q0, q1, q2, q3, q4, q5⟩, _⟩ := rowN6 ZR.out
          exact bodyPost_ret (v := .agg #[.int .i64 hi, .int .i64 y, .int .i64 z, .int .i64 (1 + s4), .int .i64 (z + 1), .int .i64 s6]) (by simp only [results, Tryd.results37]; simp [go_sem, q0, q1, q2, q3, q4, q5]) rfl ⟨⟨⟨hi, y, z, 1 + s4, z + 1, s6⟩, rfl⟩, ZD.out⟩
        · clear ka kd
          go_wp2_with fail
          refine (n_any sb (2) _ HS.out.src.1 (by omega)).mono ?_
          rintro e w34 ⟨⟨d, rfl, da, db, dc⟩, hD⟩
          replace HS := Lib.hid (HS.out.draw hD)
          clear hD
          have dd := db (by omega)
          clear db dc
          obtain ⟨⟨c0, c1, c2, c3, c4, c5⟩, f0, f1, f2, f3, f4, f5⟩ := rowN6 (show World.rowIs _ _ _ 6 (rowN [.int .i64 hi, .int .i64 y, .int .i64 z, .int .i64 (1 + s4), .int .i64 cc, .int .i64 s6]) from HS.out.row)
          have hgl := HS.out.row.lt
          have hrl := HS.out.res.lt
          replace HS := Lib.hid (HS.out.set 3 (.int .i64 (5 * d)) (by simp))
          have HSL : Hid (DaS 40 w sb r g [.int .i64 0, .int .i64 0, .int .i64 0, .int .i64 0, .int .i64 0, .int .i64 0] [.int .i64 hi, .int .i64 y, .int .i64 z, .int .i64 (5 * d), .int .i64 cc, .int .i64 s6] (w34.setCell ⟨g, 3, none⟩ (.int .i64 (5 * d)))) := HS.out
          replace HS := HSL
          clear HSL
          obtain ⟨⟨o0, o1, o2, o3, o4, o5⟩, z0, z1, z2, z3, z4, z5⟩ := rowN6 (show World.rowIs _ _ _ 6 (rowN [.int .i64 0, .int .i64 0, .int .i64 0, .int .i64 0, .int .i64 0, .int .i64 0]) from HS.out.res)
          have lo := HS.out.lo
          have zr := al6put (show World.rowIs _ r 40 6 (rowN [.int .i64 0, .int .i64 0, .int .i64 0, .int .i64 0, .int .i64 0, .int .i64 0]) from HS.out.res) rfl (.int .i64 (hi)) (.int .i64 (y)) (.int .i64 (z)) (.int .i64 (5 * d)) (.int .i64 (cc)) (.int .i64 (s6))
          have zd : Drew sb w ((((((((w34.setCell ⟨g, 3, none⟩ (.int .i64 (5 * d)))).setCell ⟨r, 0, none⟩ (.int .i64 (hi))).setCell ⟨r, 1, none⟩ (.int .i64 (y))).setCell ⟨r, 2, none⟩ (.int .i64 (z))).setCell ⟨r, 3, none⟩ (.int .i64 (5 * d))).setCell ⟨r, 4, none⟩ (.int .i64 (cc))).setCell ⟨r, 5, none⟩ (.int .i64 (s6))) := (aldrew_set (aldrew_set (aldrew_set (aldrew_set (aldrew_set (aldrew_set HS.out.src lo.1 lo.2.1) lo.1 lo.2.1) lo.1 lo.2.1) lo.1 lo.2.1) lo.1 lo.2.1) lo.1 lo.2.1)
          have ZR := Lib.hid zr
          have ZD := Lib.hid zd
          clear zr zd lo
          go_wp2_with fail
          obtain ⟨⟨q0, q1, q2, q3, q4, q5⟩, _⟩ := rowN6 ZR.out
          exact bodyPost_ret (v := .agg #[.int .i64 hi, .int .i64 y, .int .i64 z, .int .i64 (5 * d), .int .i64 cc, .int .i64 s6]) (by simp only [results, Tryd.results37]; simp [go_sem, q0, q1, q2, q3, q4, q5]) rfl ⟨⟨⟨hi, y, z, 5 * d, cc, s6⟩, rfl⟩, ZD.out⟩
        · clear ka kd
          go_wp2_with fail
          refine (n_any sb (2) _ HS.out.src.1 (by omega)).mono ?_
          rintro e w35 ⟨⟨d, rfl, da, db, dc⟩, hD⟩
          replace HS := Lib.hid (HS.out.draw hD)
          clear hD
          have dd := db (by omega)
          clear db dc
          obtain ⟨⟨c0, c1, c2, c3, c4, c5⟩, f0, f1, f2, f3, f4, f5⟩ := rowN6 (show World.rowIs _ _ _ 6 (rowN [.int .i64 hi, .int .i64 y, .int .i64 z, .int .i64 (1 + s4), .int .i64 cc, .int .i64 s6]) from HS.out.row)
          have hgl := HS.out.row.lt
          have hrl := HS.out.res.lt
          replace HS := Lib.hid (HS.out.set 5 (.int .i64 (1000 + d)) (by simp))
          have HSL : Hid (DaS 40 w sb r g [.int .i64 0, .int .i64 0, .int .i64 0, .int .i64 0, .int .i64 0, .int .i64 0] [.int .i64 hi, .int .i64 y, .int .i64 z, .int .i64 (1 + s4), .int .i64 cc, .int .i64 (1000 + d)] (w35.setCell ⟨g, 5, none⟩ (.int .i64 (1000 + d)))) := HS.out
          replace HS := HSL
          clear HSL
          obtain ⟨⟨o0, o1, o2, o3, o4, o5⟩, z0, z1, z2, z3, z4, z5⟩ := rowN6 (show World.rowIs _ _ _ 6 (rowN [.int .i64 0, .int .i64 0, .int .i64 0, .int .i64 0, .int .i64 0, .int .i64 0]) from HS.out.res)
          have lo := HS.out.lo
          have zr := al6put (show World.rowIs _ r 40 6 (rowN [.int .i64 0, .int .i64 0, .int .i64 0, .int .i64 0, .int .i64 0, .int .i64 0]) from HS.out.res) rfl (.int .i64 (hi)) (.int .i64 (y)) (.int .i64 (z)) (.int .i64 (1 + s4)) (.int .i64 (cc)) (.int .i64 (1000 + d))
          have zd : Drew sb w ((((((((w35.setCell ⟨g, 5, none⟩ (.int .i64 (1000 + d)))).setCell ⟨r, 0, none⟩ (.int .i64 (hi))).setCell ⟨r, 1, none⟩ (.int .i64 (y))).setCell ⟨r, 2, none⟩ (.int .i64 (z))).setCell ⟨r, 3, none⟩ (.int .i64 (1 + s4))).setCell ⟨r, 4, none⟩ (.int .i64 (cc))).setCell ⟨r, 5, none⟩ (.int .i64 (1000 + d))) := (aldrew_set (aldrew_set (aldrew_set (aldrew_set (aldrew_set (aldrew_set HS.out.src lo.1 lo.2.1) lo.1 lo.2.1) lo.1 lo.2.1) lo.1 lo.2.1) lo.1 lo.2.1) lo.1 lo.2.1)
          have ZR := Lib.hid zr
          have ZD := Lib.hid zd
          clear zr zd lo
          go_wp2_with fail
          obtain ⟨⟨q0, q1, q2, q3, q4, q5⟩, _⟩ := rowN6 ZR.out
          exact bodyPost_ret (v := .agg #[.int .i64 hi, .int .i64 y, .int .i64 z, .int .i64 (1 + s4), .int .i64 cc, .int .i64 (1000 + d)]) (by simp only [results, Tryd.results37]; simp [go_sem, q0, q1, q2, q3, q4, q5]) rfl ⟨⟨⟨hi, y, z, 1 + s4, cc, 1000 + d⟩, rfl⟩, ZD.out⟩
set_option maxRecDepth 100000 in
set_option maxHeartbeats 16000000 in
theorem dvalue_any (sb : Nat) (w : World) (h : Src sb w) :
    Calls Tryd.prog 92 #[.pointer (some ⟨sb, 0, none⟩)] w fun e w' => (∃ v, e = .returned (.int .i64 v)) ∧ Drew sb w w' := by
  have H := Lib.hid h
  have hlt := h.lt
  clear h
  go_enter Tryd.func92, Tryd.ntmps92
  go_wp2_with fail
  refine (one_any sb 40 _ H.out (by omega)).mono ?_
  rintro e w1 ⟨⟨bb, rfl⟩, hD⟩
  have HD := Lib.hid hD
  clear hD
  cases bb
  · go_wp2_with fail
    refine (n_any sb 60 _ HD.out.1 (by omega)).mono ?_
    rintro e w2 ⟨⟨v, rfl, va, vb, vc⟩, hD⟩
    have HD2 := Lib.hid (aldrew_more HD.out hD)
    clear hD vb vc
    go_wp2_with fail
    go_ret
    exact ⟨⟨_, rfl⟩, HD2.out⟩
  · obtain ⟨W, hW⟩ : ∃ W, W = w1.alloc (.cells #[.int .i64 1000000, .int .i64 1000001, .int .i64 (-1000001)] 2) := ⟨_, rfl⟩
    have HR : Hid (W.rowIs w1.heap.size 2 3 (rowN [.int .i64 1000000, .int .i64 1000001, .int .i64 (-1000001)])) := by show World.rowIs _ _ _ _ _; rw [hW]; exact rowN_alloc w1 [.int .i64 1000000, .int .i64 1000001, .int .i64 (-1000001)] _
    have HW1 : Hid (Drew sb w W) := by show Drew _ _ _; rw [hW]; exact aldrew_bel HD.out (nbel_alloc _ _)
    have HNE : Hid (w1.heap.size ≠ sb) := by have := HD.out.1.lt; show _ ≠ _; omega
    have HW := Lib.hid hW
    clear hW
    go_wp2_with fail
    rw [← HW.out]
    refine (n_any sb 3 _ HW1.out.1 (by omega)).mono ?_
    rintro e w2 ⟨⟨v, rfl, va, vb, vc⟩, hD⟩
    have vd := vb (by omega)
    have HD2 := Lib.hid (aldrew_more HW1.out hD)
    have hr2 := HR.out.of_block (hD.2.2.2.2.2 _ HR.out.lt HNE.out)
    obtain ⟨⟨x0, x1, x2⟩, _⟩ := rowN3 hr2
    clear hD vb vc hr2
    rcases (show v = 0 ∨ v = 1 ∨ v = 2 by omega) with rfl | rfl | rfl
    · clear va vd
      go_wp2_with fail
      go_ret
      exact ⟨⟨_, rfl⟩, HD2.out⟩
    · clear va vd
      go_wp2_with fail
      go_ret
      exact ⟨⟨_, rfl⟩, HD2.out⟩
    · clear va vd
      go_wp2_with fail
      go_ret
      exact ⟨⟨_, rfl⟩, HD2.out⟩
theorem dmax_any (x y : Int) (w : World) :
    Calls Tryd.prog 91 #[.int .i64 x, .int .i64 y] w fun e w' => e = .returned (.int .i64 (max x y)) ∧ w' = w := by
  by_cases c : y < x
  · have HE : Hid (max x y = x) := by show _ = _; omega
    go_enter Tryd.func91, Tryd.ntmps91
    go_wp2_with fail
    go_ret
    exact ⟨by rw [HE.out]; rfl, rfl⟩
  · have HE : Hid (max x y = y) := by show _ = _; omega
    go_enter Tryd.func91, Tryd.ntmps91
    go_wp2_with fail
    go_ret
    exact ⟨by rw [HE.out]; rfl, rfl⟩
theorem al2bel {B g : Nat} {w W : World} (h : Below B w W) (hg : B ≤ g) (v0 v1 : Value) : Below B w ((W.setCell ⟨g, 0, none⟩ v0).setCell ⟨g, 1, none⟩ v1) := (h.setCell (p := ⟨g, 0, none⟩) hg _).setCell (p := ⟨g, 1, none⟩) hg _
theorem al2put {T : TypeId} {g : Nat} {W : World} {l : List Value} (h : W.rowIs g T 2 (rowN l)) (hl : l.length = 2) (v0 v1 : Value) : ((W.setCell ⟨g, 0, none⟩ v0).setCell ⟨g, 1, none⟩ v1).rowIs g T 2 (rowN [v0, v1]) := by
  match l, hl with
  | [x0, x1], _ => exact (rowN_put (rowN_put h 0 v0 (by simp)) 1 v1 (by simp))
set_option maxRecDepth 100000 in
set_option maxHeartbeats 16000000 in
theorem dact_any (sb : Nat) (w : World) (h : Src sb w) :
    Calls Tryd.prog 72 #[.pointer (some ⟨sb, 0, none⟩)] w fun e w' => (∃ k v : Int, e = .returned (.agg #[.int .i64 k, .int .i64 v])) ∧ Drew sb w w' := by
  obtain ⟨W, hW⟩ : ∃ W, W = w.alloc (.cells #[.int .i64 0, .int .i64 0] 50) := ⟨_, rfl⟩
  obtain ⟨r, hr⟩ : ∃ r, r = w.heap.size := ⟨_, rfl⟩
  have HR : Hid (W.rowIs r 50 2 (rowN [.int .i64 0, .int .i64 0])) := by show World.rowIs _ _ _ _ _; rw [hW, hr]; exact rowN_alloc w [.int .i64 0, .int .i64 0] _
  have HD : Hid (Drew sb w W) := by show Drew _ _ _; rw [hW]; exact aldrew_bel (V := w) ⟨h, Chg.refl _ _⟩ (nbel_alloc _ _)
  have HL : Hid (sb < w.heap.size ∧ w.heap.size ≤ r) := ⟨h.lt, by omega⟩
  have HW := Lib.hid hW
  have HRR := Lib.hid hr
  clear hW hr h
  go_enter Tryd.func72, Tryd.ntmps72
  go_wp2_with fail
  rw [← HRR.out, ← HW.out]
  clear HW HRR
  refine (n_any sb 60 _ HD.out.1 (by omega)).mono ?_
  rintro e wa ⟨⟨x, rfl, xa, xb, xc⟩, hD⟩
  have xd := xb (by omega)
  have HR2 := Lib.hid (HR.out.of_block (hD.2.2.2.2.2 r HR.out.lt (by have := HL.out; omega)))
  have HD2 := Lib.hid (aldrew_more HD.out hD)
  clear hD HR HD xb xc
  have HR := HR2
  have HD := HD2
  clear HR2 HD2
  obtain ⟨V0, hV0⟩ : ∃ V, V = wa.alloc (.cells #[.int .i64 1, .int .i64 x] 50) := ⟨_, rfl⟩
  obtain ⟨g, hg⟩ : ∃ g, g = wa.heap.size := ⟨_, rfl⟩
  have HS : Hid (DaS 50 w sb r g [.int .i64 0, .int .i64 0] [.int .i64 1, .int .i64 x] V0) := by
    show DaS _ _ _ _ _ _ _ _
    rw [hV0, hg]
    exact ⟨rowN_alloc wa [.int .i64 1, .int .i64 x] _, nrow_below HR.out (nbel_alloc _ _), aldrew_bel HD.out (nbel_alloc _ _), HL.out.1, HL.out.2, HR.out.lt⟩
  have HV0 := Lib.hid hV0
  have HG := Lib.hid hg
  clear hV0 hg HR HD HL
  go_wp2_with fail
  rw [← HG.out, ← HV0.out]
  clear HG HV0
  refine (n_any sb (12) _ HS.out.src.1 (by omega)).mono ?_
  rintro e w36 ⟨⟨k, rfl, ka, kb, kc⟩, hD⟩
  replace HS := Lib.hid (HS.out.draw hD)
  clear hD
  have kd := kb (by omega)
  clear kb kc
  rcases (show k = 0 ∨ k = 1 ∨ k = 2 ∨ (k ≠ 0 ∧ k ≠ 1 ∧ k ≠ 2) by omega) with k0 | k0 | k0 | ⟨k0, k1, k2⟩
  · have z0 : (k == 0) = true := by simp; omega
    have z1 : (k == 1) = false := by simp; omega
    have z2 : (k == 2) = false := by simp; omega
    clear k0 ka kd
    obtain ⟨V37, hV⟩ : ∃ Z, Z = w36.setCell ⟨g, 0, none⟩ (.int .i64 (2)) := ⟨_, rfl⟩
    have HV : Hid (V37 = w36.setCell ⟨g, 0, none⟩ (.int .i64 (2))) := hV
    have HS2 : Hid (DaS 50 w sb r g [.int .i64 0, .int .i64 0] [.int .i64 2, .int .i64 x] V37) := by show DaS _ _ _ _ _ _ _ _; rw [hV]; exact HS.out.set 0 (.int .i64 (2)) (by simp)
    clear hV
    obtain ⟨⟨c0, c1⟩, f0, f1⟩ := rowN2 (show World.rowIs _ _ _ 2 (rowN [.int .i64 1, .int .i64 x]) from HS.out.row)
    have hgl := HS.out.row.lt
    have hrl := HS.out.res.lt
    go_wp2_with fail
    rw [← HV.out]
    clear HV
    replace HS := HS2
    clear HS2
    clear c0 f0 c1 f1 hgl hrl
    refine (one_any sb 200 _ HS.out.src.1 (by omega)).mono ?_
    rintro e w38 ⟨⟨bb, rfl⟩, hD⟩
    replace HS := Lib.hid (HS.out.draw hD)
    clear hD
    cases bb
    · go_wp2_with fail
      refine (one_any sb 300 _ HS.out.src.1 (by omega)).mono ?_
      rintro e w39 ⟨⟨bb, rfl⟩, hD⟩
      replace HS := Lib.hid (HS.out.draw hD)
      clear hD
      cases bb
      · obtain ⟨⟨c0, c1⟩, f0, f1⟩ := rowN2 (show World.rowIs _ _ _ 2 (rowN [.int .i64 2, .int .i64 x]) from HS.out.row)
        have hgl := HS.out.row.lt
        have hrl := HS.out.res.lt
        obtain ⟨⟨o0, o1⟩, z0, z1⟩ := rowN2 (show World.rowIs _ _ _ 2 (rowN [.int .i64 0, .int .i64 0]) from HS.out.res)
        have lo := HS.out.lo
        have zr := al2put (show World.rowIs _ r 50 2 (rowN [.int .i64 0, .int .i64 0]) from HS.out.res) rfl (.int .i64 (2)) (.int .i64 (x))
        have zd : Drew sb w (((w39).setCell ⟨r, 0, none⟩ (.int .i64 (2))).setCell ⟨r, 1, none⟩ (.int .i64 (x))) := (aldrew_set (aldrew_set HS.out.src lo.1 lo.2.1) lo.1 lo.2.1)
        have ZR := Lib.hid zr
        have ZD := Lib.hid zd
        clear zr zd lo
        go_wp2_with fail
        obtain ⟨⟨q0, q1⟩, _⟩ := rowN2 ZR.out
        exact bodyPost_ret (v := .agg #[.int .i64 2, .int .i64 x]) (by simp only [results, Tryd.results72]; simp [go_sem, q0, q1]) rfl ⟨⟨2, x, rfl⟩, ZD.out⟩
      · go_wp2_with fail
        refine (n_any sb (2) _ HS.out.src.1 (by omega)).mono ?_
        rintro e w40 ⟨⟨k4, rfl, k4a, k4b, k4c⟩, hD⟩
        replace HS := Lib.hid (HS.out.draw hD)
        clear hD
        have k4d := k4b (by omega)
        clear k4b k4c
        obtain ⟨⟨c0, c1⟩, f0, f1⟩ := rowN2 (show World.rowIs _ _ _ 2 (rowN [.int .i64 2, .int .i64 x]) from HS.out.row)
        have hgl := HS.out.row.lt
        have hrl := HS.out.res.lt
        replace HS := Lib.hid (HS.out.set 0 (.int .i64 (4 * k4)) (by simp))
        have HSL : Hid (DaS 50 w sb r g [.int .i64 0, .int .i64 0] [.int .i64 (4 * k4), .int .i64 x] (w40.setCell ⟨g, 0, none⟩ (.int .i64 (4 * k4)))) := HS.out
        replace HS := HSL
        clear HSL
        obtain ⟨⟨o0, o1⟩, z0, z1⟩ := rowN2 (show World.rowIs _ _ _ 2 (rowN [.int .i64 0, .int .i64 0]) from HS.out.res)
        have lo := HS.out.lo
        have zr := al2put (show World.rowIs _ r 50 2 (rowN [.int .i64 0, .int .i64 0]) from HS.out.res) rfl (.int .i64 (4 * k4)) (.int .i64 (x))
        have zd : Drew sb w ((((w40.setCell ⟨g, 0, none⟩ (.int .i64 (4 * k4)))).setCell ⟨r, 0, none⟩ (.int .i64 (4 * k4))).setCell ⟨r, 1, none⟩ (.int .i64 (x))) := (aldrew_set (aldrew_set HS.out.src lo.1 lo.2.1) lo.1 lo.2.1)
        have ZR := Lib.hid zr
        have ZD := Lib.hid zd
        clear zr zd lo
        go_wp2_with fail
        obtain ⟨⟨q0, q1⟩, _⟩ := rowN2 ZR.out
        exact bodyPost_ret (v := .agg #[.int .i64 (4 * k4), .int .i64 x]) (by simp only [results, Tryd.results72]; simp [go_sem, q0, q1]) rfl ⟨⟨4 * k4, x, rfl⟩, ZD.out⟩
    · go_wp2_with fail
      refine (dvalue_any sb _ HS.out.src.1).mono ?_
      rintro e w41 ⟨⟨v9, rfl⟩, hD⟩
      replace HS := Lib.hid (HS.out.draw hD)
      clear hD
      obtain ⟨V42, hV⟩ : ∃ Z, Z = w41.setCell ⟨g, 1, none⟩ (.int .i64 (v9)) := ⟨_, rfl⟩
      have HV : Hid (V42 = w41.setCell ⟨g, 1, none⟩ (.int .i64 (v9))) := hV
      have HS2 : Hid (DaS 50 w sb r g [.int .i64 0, .int .i64 0] [.int .i64 2, .int .i64 v9] V42) := by show DaS _ _ _ _ _ _ _ _; rw [hV]; exact HS.out.set 1 (.int .i64 (v9)) (by simp)
      clear hV
      obtain ⟨⟨c0, c1⟩, f0, f1⟩ := rowN2 (show World.rowIs _ _ _ 2 (rowN [.int .i64 2, .int .i64 x]) from HS.out.row)
      have hgl := HS.out.row.lt
      have hrl := HS.out.res.lt
      go_wp2_with fail
      rw [← HV.out]
      clear HV
      replace HS := HS2
      clear HS2
      clear c0 f0 c1 f1 hgl hrl
      refine (one_any sb 300 _ HS.out.src.1 (by omega)).mono ?_
      rintro e w43 ⟨⟨bb, rfl⟩, hD⟩
      replace HS := Lib.hid (HS.out.draw hD)
      clear hD
      cases bb
      · obtain ⟨⟨c0, c1⟩, f0, f1⟩ := rowN2 (show World.rowIs _ _ _ 2 (rowN [.int .i64 2, .int .i64 v9]) from HS.out.row)
        have hgl := HS.out.row.lt
        have hrl := HS.out.res.lt
        obtain ⟨⟨o0, o1⟩, z0, z1⟩ := rowN2 (show World.rowIs _ _ _ 2 (rowN [.int .i64 0, .int .i64 0]) from HS.out.res)
        have lo := HS.out.lo
        have zr := al2put (show World.rowIs _ r 50 2 (rowN [.int .i64 0, .int .i64 0]) from HS.out.res) rfl (.int .i64 (2)) (.int .i64 (v9))
        have zd : Drew sb w (((w43).setCell ⟨r, 0, none⟩ (.int .i64 (2))).setCell ⟨r, 1, none⟩ (.int .i64 (v9))) := (aldrew_set (aldrew_set HS.out.src lo.1 lo.2.1) lo.1 lo.2.1)
        have ZR := Lib.hid zr
        have ZD := Lib.hid zd
        clear zr zd lo
        go_wp2_with fail
        obtain ⟨⟨q0, q1⟩, _⟩ := rowN2 ZR.out
        exact bodyPost_ret (v := .agg #[.int .i64 2, .int .i64 v9]) (by simp only [results, Tryd.results72]; simp [go_sem, q0, q1]) rfl ⟨⟨2, v9, rfl⟩, ZD.out⟩
      · go_wp2_with fail
        refine (n_any sb (2) _ HS.out.src.1 (by omega)).mono ?_
        rintro e w44 ⟨⟨k4, rfl, k4a, k4b, k4c⟩, hD⟩
        replace HS := Lib.hid (HS.out.draw hD)
        clear hD
        have k4d := k4b (by omega)
        clear k4b k4c
        obtain ⟨⟨c0, c1⟩, f0, f1⟩ := rowN2 (show World.rowIs _ _ _ 2 (rowN [.int .i64 2, .int .i64 v9]) from HS.out.row)
        have hgl := HS.out.row.lt
        have hrl := HS.out.res.lt
        replace HS := Lib.hid (HS.out.set 0 (.int .i64 (4 * k4)) (by simp))
        have HSL : Hid (DaS 50 w sb r g [.int .i64 0, .int .i64 0] [.int .i64 (4 * k4), .int .i64 v9] (w44.setCell ⟨g, 0, none⟩ (.int .i64 (4 * k4)))) := HS.out
        replace HS := HSL
        clear HSL
        obtain ⟨⟨o0, o1⟩, z0, z1⟩ := rowN2 (show World.rowIs _ _ _ 2 (rowN [.int .i64 0, .int .i64 0]) from HS.out.res)
        have lo := HS.out.lo
        have zr := al2put (show World.rowIs _ r 50 2 (rowN [.int .i64 0, .int .i64 0]) from HS.out.res) rfl (.int .i64 (4 * k4)) (.int .i64 (v9))
        have zd : Drew sb w ((((w44.setCell ⟨g, 0, none⟩ (.int .i64 (4 * k4)))).setCell ⟨r, 0, none⟩ (.int .i64 (4 * k4))).setCell ⟨r, 1, none⟩ (.int .i64 (v9))) := (aldrew_set (aldrew_set HS.out.src lo.1 lo.2.1) lo.1 lo.2.1)
        have ZR := Lib.hid zr
        have ZD := Lib.hid zd
        clear zr zd lo
        go_wp2_with fail
        obtain ⟨⟨q0, q1⟩, _⟩ := rowN2 ZR.out
        exact bodyPost_ret (v := .agg #[.int .i64 (4 * k4), .int .i64 v9]) (by simp only [results, Tryd.results72]; simp [go_sem, q0, q1]) rfl ⟨⟨4 * k4, v9, rfl⟩, ZD.out⟩
  · have z0 : (k == 0) = false := by simp; omega
    have z1 : (k == 1) = true := by simp; omega
    have z2 : (k == 2) = false := by simp; omega
    clear k0 ka kd
    obtain ⟨V37, hV⟩ : ∃ Z, Z = w36.setCell ⟨g, 0, none⟩ (.int .i64 (2)) := ⟨_, rfl⟩
    have HV : Hid (V37 = w36.setCell ⟨g, 0, none⟩ (.int .i64 (2))) := hV
    have HS2 : Hid (DaS 50 w sb r g [.int .i64 0, .int .i64 0] [.int .i64 2, .int .i64 x] V37) := by show DaS _ _ _ _ _ _ _ _; rw [hV]; exact HS.out.set 0 (.int .i64 (2)) (by simp)
    clear hV
    obtain ⟨⟨c0, c1⟩, f0, f1⟩ := rowN2 (show World.rowIs _ _ _ 2 (rowN [.int .i64 1, .int .i64 x]) from HS.out.row)
    have hgl := HS.out.row.lt
    have hrl := HS.out.res.lt
    go_wp2_with fail
    rw [← HV.out]
    clear HV
    replace HS := HS2
    clear HS2
    clear c0 f0 c1 f1 hgl hrl
    refine (one_any sb 200 _ HS.out.src.1 (by omega)).mono ?_
    rintro e w38 ⟨⟨bb, rfl⟩, hD⟩
    replace HS := Lib.hid (HS.out.draw hD)
    clear hD
    cases bb
    · go_wp2_with fail
      refine (one_any sb 300 _ HS.out.src.1 (by omega)).mono ?_
      rintro e w39 ⟨⟨bb, rfl⟩, hD⟩
      replace HS := Lib.hid (HS.out.draw hD)
      clear hD
      cases bb
      · obtain ⟨⟨c0, c1⟩, f0, f1⟩ := rowN2 (show World.rowIs _ _ _ 2 (rowN [.int .i64 2, .int .i64 x]) from HS.out.row)
        have hgl := HS.out.row.lt
        have hrl := HS.out.res.lt
        obtain ⟨⟨o0, o1⟩, z0, z1⟩ := rowN2 (show World.rowIs _ _ _ 2 (rowN [.int .i64 0, .int .i64 0]) from HS.out.res)
        have lo := HS.out.lo
        have zr := al2put (show World.rowIs _ r 50 2 (rowN [.int .i64 0, .int .i64 0]) from HS.out.res) rfl (.int .i64 (2)) (.int .i64 (x))
        have zd : Drew sb w (((w39).setCell ⟨r, 0, none⟩ (.int .i64 (2))).setCell ⟨r, 1, none⟩ (.int .i64 (x))) := (aldrew_set (aldrew_set HS.out.src lo.1 lo.2.1) lo.1 lo.2.1)
        have ZR := Lib.hid zr
        have ZD := Lib.hid zd
        clear zr zd lo
        go_wp2_with fail
        obtain ⟨⟨q0, q1⟩, _⟩ := rowN2 ZR.out
        exact bodyPost_ret (v := .agg #[.int .i64 2, .int .i64 x]) (by simp only [results, Tryd.results72]; simp [go_sem, q0, q1]) rfl ⟨⟨2, x, rfl⟩, ZD.out⟩
      · go_wp2_with fail
        refine (n_any sb (2) _ HS.out.src.1 (by omega)).mono ?_
        rintro e w40 ⟨⟨k4, rfl, k4a, k4b, k4c⟩, hD⟩
        replace HS := Lib.hid (HS.out.draw hD)
        clear hD
        have k4d := k4b (by omega)
        clear k4b k4c
        obtain ⟨⟨c0, c1⟩, f0, f1⟩ := rowN2 (show World.rowIs _ _ _ 2 (rowN [.int .i64 2, .int .i64 x]) from HS.out.row)
        have hgl := HS.out.row.lt
        have hrl := HS.out.res.lt
        replace HS := Lib.hid (HS.out.set 0 (.int .i64 (4 * k4)) (by simp))
        have HSL : Hid (DaS 50 w sb r g [.int .i64 0, .int .i64 0] [.int .i64 (4 * k4), .int .i64 x] (w40.setCell ⟨g, 0, none⟩ (.int .i64 (4 * k4)))) := HS.out
        replace HS := HSL
        clear HSL
        obtain ⟨⟨o0, o1⟩, z0, z1⟩ := rowN2 (show World.rowIs _ _ _ 2 (rowN [.int .i64 0, .int .i64 0]) from HS.out.res)
        have lo := HS.out.lo
        have zr := al2put (show World.rowIs _ r 50 2 (rowN [.int .i64 0, .int .i64 0]) from HS.out.res) rfl (.int .i64 (4 * k4)) (.int .i64 (x))
        have zd : Drew sb w ((((w40.setCell ⟨g, 0, none⟩ (.int .i64 (4 * k4)))).setCell ⟨r, 0, none⟩ (.int .i64 (4 * k4))).setCell ⟨r, 1, none⟩ (.int .i64 (x))) := (aldrew_set (aldrew_set HS.out.src lo.1 lo.2.1) lo.1 lo.2.1)
        have ZR := Lib.hid zr
        have ZD := Lib.hid zd
        clear zr zd lo
        go_wp2_with fail
        obtain ⟨⟨q0, q1⟩, _⟩ := rowN2 ZR.out
        exact bodyPost_ret (v := .agg #[.int .i64 (4 * k4), .int .i64 x]) (by simp only [results, Tryd.results72]; simp [go_sem, q0, q1]) rfl ⟨⟨4 * k4, x, rfl⟩, ZD.out⟩
    · go_wp2_with fail
      refine (dvalue_any sb _ HS.out.src.1).mono ?_
      rintro e w41 ⟨⟨v9, rfl⟩, hD⟩
      replace HS := Lib.hid (HS.out.draw hD)
      clear hD
      obtain ⟨V42, hV⟩ : ∃ Z, Z = w41.setCell ⟨g, 1, none⟩ (.int .i64 (v9)) := ⟨_, rfl⟩
      have HV : Hid (V42 = w41.setCell ⟨g, 1, none⟩ (.int .i64 (v9))) := hV
      have HS2 : Hid (DaS 50 w sb r g [.int .i64 0, .int .i64 0] [.int .i64 2, .int .i64 v9] V42) := by show DaS _ _ _ _ _ _ _ _; rw [hV]; exact HS.out.set 1 (.int .i64 (v9)) (by simp)
      clear hV
      obtain ⟨⟨c0, c1⟩, f0, f1⟩ := rowN2 (show World.rowIs _ _ _ 2 (rowN [.int .i64 2, .int .i64 x]) from HS.out.row)
      have hgl := HS.out.row.lt
      have hrl := HS.out.res.lt
      go_wp2_with fail
      rw [← HV.out]
      clear HV
      replace HS := HS2
      clear HS2
      clear c0 f0 c1 f1 hgl hrl
      refine (one_any sb 300 _ HS.out.src.1 (by omega)).mono ?_
      rintro e w43 ⟨⟨bb, rfl⟩, hD⟩
      replace HS := Lib.hid (HS.out.draw hD)
      clear hD
      cases bb
      · obtain ⟨⟨c0, c1⟩, f0, f1⟩ := rowN2 (show World.rowIs _ _ _ 2 (rowN [.int .i64 2, .int .i64 v9]) from HS.out.row)
        have hgl := HS.out.row.lt
        have hrl := HS.out.res.lt
        obtain ⟨⟨o0, o1⟩, z0, z1⟩ := rowN2 (show World.rowIs _ _ _ 2 (rowN [.int .i64 0, .int .i64 0]) from HS.out.res)
        have lo := HS.out.lo
        have zr := al2put (show World.rowIs _ r 50 2 (rowN [.int .i64 0, .int .i64 0]) from HS.out.res) rfl (.int .i64 (2)) (.int .i64 (v9))
        have zd : Drew sb w (((w43).setCell ⟨r, 0, none⟩ (.int .i64 (2))).setCell ⟨r, 1, none⟩ (.int .i64 (v9))) := (aldrew_set (aldrew_set HS.out.src lo.1 lo.2.1) lo.1 lo.2.1)
        have ZR := Lib.hid zr
        have ZD := Lib.hid zd
        clear zr zd lo
        go_wp2_with fail
        obtain ⟨⟨q0, q1⟩, _⟩ := rowN2 ZR.out
        exact bodyPost_ret (v := .agg #[.int .i64 2, .int .i64 v9]) (by simp only [results, Tryd.results72]; simp [go_sem, q0, q1]) rfl ⟨⟨2, v9, rfl⟩, ZD.out⟩
      · go_wp2_with fail
        refine (n_any sb (2) _ HS.out.src.1 (by omega)).mono ?_
        rintro e w44 ⟨⟨k4, rfl, k4a, k4b, k4c⟩, hD⟩
        replace HS := Lib.hid (HS.out.draw hD)
        clear hD
        have k4d := k4b (by omega)
        clear k4b k4c
        obtain ⟨⟨c0, c1⟩, f0, f1⟩ := rowN2 (show World.rowIs _ _ _ 2 (rowN [.int .i64 2, .int .i64 v9]) from HS.out.row)
        have hgl := HS.out.row.lt
        have hrl := HS.out.res.lt
        replace HS := Lib.hid (HS.out.set 0 (.int .i64 (4 * k4)) (by simp))
        have HSL : Hid (DaS 50 w sb r g [.int .i64 0, .int .i64 0] [.int .i64 (4 * k4), .int .i64 v9] (w44.setCell ⟨g, 0, none⟩ (.int .i64 (4 * k4)))) := HS.out
        replace HS := HSL
        clear HSL
        obtain ⟨⟨o0, o1⟩, z0, z1⟩ := rowN2 (show World.rowIs _ _ _ 2 (rowN [.int .i64 0, .int .i64 0]) from HS.out.res)
        have lo := HS.out.lo
        have zr := al2put (show World.rowIs _ r 50 2 (rowN [.int .i64 0, .int .i64 0]) from HS.out.res) rfl (.int .i64 (4 * k4)) (.int .i64 (v9))
        have zd : Drew sb w ((((w44.setCell ⟨g, 0, none⟩ (.int .i64 (4 * k4)))).setCell ⟨r, 0, none⟩ (.int .i64 (4 * k4))).setCell ⟨r, 1, none⟩ (.int .i64 (v9))) := (aldrew_set (aldrew_set HS.out.src lo.1 lo.2.1) lo.1 lo.2.1)
        have ZR := Lib.hid zr
        have ZD := Lib.hid zd
        clear zr zd lo
        go_wp2_with fail
        obtain ⟨⟨q0, q1⟩, _⟩ := rowN2 ZR.out
        exact bodyPost_ret (v := .agg #[.int .i64 (4 * k4), .int .i64 v9]) (by simp only [results, Tryd.results72]; simp [go_sem, q0, q1]) rfl ⟨⟨4 * k4, v9, rfl⟩, ZD.out⟩
  · have z0 : (k == 0) = false := by simp; omega
    have z1 : (k == 1) = false := by simp; omega
    have z2 : (k == 2) = true := by simp; omega
    clear k0 ka kd
    obtain ⟨V45, hV⟩ : ∃ Z, Z = w36.setCell ⟨g, 0, none⟩ (.int .i64 (3)) := ⟨_, rfl⟩
    have HV : Hid (V45 = w36.setCell ⟨g, 0, none⟩ (.int .i64 (3))) := hV
    have HS2 : Hid (DaS 50 w sb r g [.int .i64 0, .int .i64 0] [.int .i64 3, .int .i64 x] V45) := by show DaS _ _ _ _ _ _ _ _; rw [hV]; exact HS.out.set 0 (.int .i64 (3)) (by simp)
    clear hV
    obtain ⟨⟨c0, c1⟩, f0, f1⟩ := rowN2 (show World.rowIs _ _ _ 2 (rowN [.int .i64 1, .int .i64 x]) from HS.out.row)
    have hgl := HS.out.row.lt
    have hrl := HS.out.res.lt
    go_wp2_with fail
    rw [← HV.out]
    clear HV
    replace HS := HS2
    clear HS2
    clear c0 f0 c1 f1 hgl hrl
    refine (n_any sb (5) _ HS.out.src.1 (by omega)).mono ?_
    rintro e w46 ⟨⟨p, rfl, pa, pb, pc⟩, hD⟩
    replace HS := Lib.hid (HS.out.draw hD)
    clear hD
    have pd := pb (by omega)
    clear pb pc
    go_wp2_with fail
    refine (n_any sb (6) _ HS.out.src.1 (by omega)).mono ?_
    rintro e w47 ⟨⟨q, rfl, qa, qb, qc⟩, hD⟩
    replace HS := Lib.hid (HS.out.draw hD)
    clear hD
    have qd := qb (by omega)
    clear qb qc
    go_wp2_with fail
    refine (dmax_any 0 (q - 4) _).mono ?_
    rintro e wq ⟨rfl, hwq⟩
    rw [hwq]
    clear hwq wq
    obtain ⟨mx, hmx⟩ : ∃ m, m = max 0 (q - 4) := ⟨_, rfl⟩
    have hmb : 0 ≤ mx ∧ mx ≤ 2 := by omega
    rw [← hmx]
    clear hmx
    obtain ⟨V48, hV⟩ : ∃ Z, Z = w47.setCell ⟨g, 1, none⟩ (.int .i64 (p - mx)) := ⟨_, rfl⟩
    have HV : Hid (V48 = w47.setCell ⟨g, 1, none⟩ (.int .i64 (p - mx))) := hV
    have HS2 : Hid (DaS 50 w sb r g [.int .i64 0, .int .i64 0] [.int .i64 3, .int .i64 (p - mx)] V48) := by show DaS _ _ _ _ _ _ _ _; rw [hV]; exact HS.out.set 1 (.int .i64 (p - mx)) (by simp)
    clear hV
    obtain ⟨⟨c0, c1⟩, f0, f1⟩ := rowN2 (show World.rowIs _ _ _ 2 (rowN [.int .i64 3, .int .i64 x]) from HS.out.row)
    have hgl := HS.out.row.lt
    have hrl := HS.out.res.lt
    go_wp2_with fail
    rw [← HV.out]
    clear HV
    replace HS := HS2
    clear HS2
    clear c0 f0 c1 f1 hgl hrl
    refine (one_any sb 200 _ HS.out.src.1 (by omega)).mono ?_
    rintro e w49 ⟨⟨bb, rfl⟩, hD⟩
    replace HS := Lib.hid (HS.out.draw hD)
    clear hD
    cases bb
    · go_wp2_with fail
      refine (one_any sb 300 _ HS.out.src.1 (by omega)).mono ?_
      rintro e w50 ⟨⟨bb, rfl⟩, hD⟩
      replace HS := Lib.hid (HS.out.draw hD)
      clear hD
      cases bb
      · obtain ⟨⟨c0, c1⟩, f0, f1⟩ := rowN2 (show World.rowIs _ _ _ 2 (rowN [.int .i64 3, .int .i64 (p - mx)]) from HS.out.row)
        have hgl := HS.out.row.lt
        have hrl := HS.out.res.lt
        obtain ⟨⟨o0, o1⟩, z0, z1⟩ := rowN2 (show World.rowIs _ _ _ 2 (rowN [.int .i64 0, .int .i64 0]) from HS.out.res)
        have lo := HS.out.lo
        have zr := al2put (show World.rowIs _ r 50 2 (rowN [.int .i64 0, .int .i64 0]) from HS.out.res) rfl (.int .i64 (3)) (.int .i64 (p - mx))
        have zd : Drew sb w (((w50).setCell ⟨r, 0, none⟩ (.int .i64 (3))).setCell ⟨r, 1, none⟩ (.int .i64 (p - mx))) := (aldrew_set (aldrew_set HS.out.src lo.1 lo.2.1) lo.1 lo.2.1)
        have ZR := Lib.hid zr
        have ZD := Lib.hid zd
        clear zr zd lo
        go_wp2_with fail
        obtain ⟨⟨q0, q1⟩, _⟩ := rowN2 ZR.out
        exact bodyPost_ret (v := .agg #[.int .i64 3, .int .i64 (p - mx)]) (by simp only [results, Tryd.results72]; simp [go_sem, q0, q1]) rfl ⟨⟨3, p - mx, rfl⟩, ZD.out⟩
      · go_wp2_with fail
        refine (n_any sb (2) _ HS.out.src.1 (by omega)).mono ?_
        rintro e w51 ⟨⟨k4, rfl, k4a, k4b, k4c⟩, hD⟩
        replace HS := Lib.hid (HS.out.draw hD)
        clear hD
        have k4d := k4b (by omega)
        clear k4b k4c
        obtain ⟨⟨c0, c1⟩, f0, f1⟩ := rowN2 (show World.rowIs _ _ _ 2 (rowN [.int .i64 3, .int .i64 (p - mx)]) from HS.out.row)
        have hgl := HS.out.row.lt
        have hrl := HS.out.res.lt
        replace HS := Lib.hid (HS.out.set 0 (.int .i64 (4 * k4)) (by simp))
        have HSL : Hid (DaS 50 w sb r g [.int .i64 0, .int .i64 0] [.int .i64 (4 * k4), .int .i64 (p - mx)] (w51.setCell ⟨g, 0, none⟩ (.int .i64 (4 * k4)))) := HS.out
        replace HS := HSL
        clear HSL
        obtain ⟨⟨o0, o1⟩, z0, z1⟩ := rowN2 (show World.rowIs _ _ _ 2 (rowN [.int .i64 0, .int .i64 0]) from HS.out.res)
        have lo := HS.out.lo
        have zr := al2put (show World.rowIs _ r 50 2 (rowN [.int .i64 0, .int .i64 0]) from HS.out.res) rfl (.int .i64 (4 * k4)) (.int .i64 (p - mx))
        have zd : Drew sb w ((((w51.setCell ⟨g, 0, none⟩ (.int .i64 (4 * k4)))).setCell ⟨r, 0, none⟩ (.int .i64 (4 * k4))).setCell ⟨r, 1, none⟩ (.int .i64 (p - mx))) := (aldrew_set (aldrew_set HS.out.src lo.1 lo.2.1) lo.1 lo.2.1)
        have ZR := Lib.hid zr
        have ZD := Lib.hid zd
        clear zr zd lo
        go_wp2_with fail
        obtain ⟨⟨q0, q1⟩, _⟩ := rowN2 ZR.out
        exact bodyPost_ret (v := .agg #[.int .i64 (4 * k4), .int .i64 (p - mx)]) (by simp only [results, Tryd.results72]; simp [go_sem, q0, q1]) rfl ⟨⟨4 * k4, p - mx, rfl⟩, ZD.out⟩
    · go_wp2_with fail
      refine (dvalue_any sb _ HS.out.src.1).mono ?_
      rintro e w52 ⟨⟨v9, rfl⟩, hD⟩
      replace HS := Lib.hid (HS.out.draw hD)
      clear hD
      obtain ⟨V53, hV⟩ : ∃ Z, Z = w52.setCell ⟨g, 1, none⟩ (.int .i64 (v9)) := ⟨_, rfl⟩
      have HV : Hid (V53 = w52.setCell ⟨g, 1, none⟩ (.int .i64 (v9))) := hV
      have HS2 : Hid (DaS 50 w sb r g [.int .i64 0, .int .i64 0] [.int .i64 3, .int .i64 v9] V53) := by show DaS _ _ _ _ _ _ _ _; rw [hV]; exact HS.out.set 1 (.int .i64 (v9)) (by simp)
      clear hV
      obtain ⟨⟨c0, c1⟩, f0, f1⟩ := rowN2 (show World.rowIs _ _ _ 2 (rowN [.int .i64 3, .int .i64 (p - mx)]) from HS.out.row)
      have hgl := HS.out.row.lt
      have hrl := HS.out.res.lt
      go_wp2_with fail
      rw [← HV.out]
      clear HV
      replace HS := HS2
      clear HS2
      clear c0 f0 c1 f1 hgl hrl
      refine (one_any sb 300 _ HS.out.src.1 (by omega)).mono ?_
      rintro e w54 ⟨⟨bb, rfl⟩, hD⟩
      replace HS := Lib.hid (HS.out.draw hD)
      clear hD
      cases bb
      · obtain ⟨⟨c0, c1⟩, f0, f1⟩ := rowN2 (show World.rowIs _ _ _ 2 (rowN [.int .i64 3, .int .i64 v9]) from HS.out.row)
        have hgl := HS.out.row.lt
        have hrl := HS.out.res.lt
        obtain ⟨⟨o0, o1⟩, z0, z1⟩ := rowN2 (show World.rowIs _ _ _ 2 (rowN [.int .i64 0, .int .i64 0]) from HS.out.res)
        have lo := HS.out.lo
        have zr := al2put (show World.rowIs _ r 50 2 (rowN [.int .i64 0, .int .i64 0]) from HS.out.res) rfl (.int .i64 (3)) (.int .i64 (v9))
        have zd : Drew sb w (((w54).setCell ⟨r, 0, none⟩ (.int .i64 (3))).setCell ⟨r, 1, none⟩ (.int .i64 (v9))) := (aldrew_set (aldrew_set HS.out.src lo.1 lo.2.1) lo.1 lo.2.1)
        have ZR := Lib.hid zr
        have ZD := Lib.hid zd
        clear zr zd lo
        go_wp2_with fail
        obtain ⟨⟨q0, q1⟩, _⟩ := rowN2 ZR.out
        exact bodyPost_ret (v := .agg #[.int .i64 3, .int .i64 v9]) (by simp only [results, Tryd.results72]; simp [go_sem, q0, q1]) rfl ⟨⟨3, v9, rfl⟩, ZD.out⟩
      · go_wp2_with fail
        refine (n_any sb (2) _ HS.out.src.1 (by omega)).mono ?_
        rintro e w55 ⟨⟨k4, rfl, k4a, k4b, k4c⟩, hD⟩
        replace HS := Lib.hid (HS.out.draw hD)
        clear hD
        have k4d := k4b (by omega)
        clear k4b k4c
        obtain ⟨⟨c0, c1⟩, f0, f1⟩ := rowN2 (show World.rowIs _ _ _ 2 (rowN [.int .i64 3, .int .i64 v9]) from HS.out.row)
        have hgl := HS.out.row.lt
        have hrl := HS.out.res.lt
        replace HS := Lib.hid (HS.out.set 0 (.int .i64 (4 * k4)) (by simp))
        have HSL : Hid (DaS 50 w sb r g [.int .i64 0, .int .i64 0] [.int .i64 (4 * k4), .int .i64 v9] (w55.setCell ⟨g, 0, none⟩ (.int .i64 (4 * k4)))) := HS.out
        replace HS := HSL
        clear HSL
        obtain ⟨⟨o0, o1⟩, z0, z1⟩ := rowN2 (show World.rowIs _ _ _ 2 (rowN [.int .i64 0, .int .i64 0]) from HS.out.res)
        have lo := HS.out.lo
        have zr := al2put (show World.rowIs _ r 50 2 (rowN [.int .i64 0, .int .i64 0]) from HS.out.res) rfl (.int .i64 (4 * k4)) (.int .i64 (v9))
        have zd : Drew sb w ((((w55.setCell ⟨g, 0, none⟩ (.int .i64 (4 * k4)))).setCell ⟨r, 0, none⟩ (.int .i64 (4 * k4))).setCell ⟨r, 1, none⟩ (.int .i64 (v9))) := (aldrew_set (aldrew_set HS.out.src lo.1 lo.2.1) lo.1 lo.2.1)
        have ZR := Lib.hid zr
        have ZD := Lib.hid zd
        clear zr zd lo
        go_wp2_with fail
        obtain ⟨⟨q0, q1⟩, _⟩ := rowN2 ZR.out
        exact bodyPost_ret (v := .agg #[.int .i64 (4 * k4), .int .i64 v9]) (by simp only [results, Tryd.results72]; simp [go_sem, q0, q1]) rfl ⟨⟨4 * k4, v9, rfl⟩, ZD.out⟩
  · have z0 : (k == 0) = false := by simp; omega
    have z1 : (k == 1) = false := by simp; omega
    have z2 : (k == 2) = false := by simp; omega
    clear k0 k1 k2 ka kd
    go_wp2_with fail
    refine (one_any sb 200 _ HS.out.src.1 (by omega)).mono ?_
    rintro e w56 ⟨⟨bb, rfl⟩, hD⟩
    replace HS := Lib.hid (HS.out.draw hD)
    clear hD
    cases bb
    · go_wp2_with fail
      refine (one_any sb 300 _ HS.out.src.1 (by omega)).mono ?_
      rintro e w57 ⟨⟨bb, rfl⟩, hD⟩
      replace HS := Lib.hid (HS.out.draw hD)
      clear hD
      cases bb
      · obtain ⟨⟨c0, c1⟩, f0, f1⟩ := rowN2 (show World.rowIs _ _ _ 2 (rowN [.int .i64 1, .int .i64 x]) from HS.out.row)
        have hgl := HS.out.row.lt
        have hrl := HS.out.res.lt
        obtain ⟨⟨o0, o1⟩, z0, z1⟩ := rowN2 (show World.rowIs _ _ _ 2 (rowN [.int .i64 0, .int .i64 0]) from HS.out.res)
        have lo := HS.out.lo
        have zr := al2put (show World.rowIs _ r 50 2 (rowN [.int .i64 0, .int .i64 0]) from HS.out.res) rfl (.int .i64 (1)) (.int .i64 (x))
        have zd : Drew sb w (((w57).setCell ⟨r, 0, none⟩ (.int .i64 (1))).setCell ⟨r, 1, none⟩ (.int .i64 (x))) := (aldrew_set (aldrew_set HS.out.src lo.1 lo.2.1) lo.1 lo.2.1)
        have ZR := Lib.hid zr
        have ZD := Lib.hid zd
        clear zr zd lo
        go_wp2_with fail
        obtain ⟨⟨q0, q1⟩, _⟩ := rowN2 ZR.out
        exact bodyPost_ret (v := .agg #[.int .i64 1, .int .i64 x]) (by simp only [results, Tryd.results72]; simp [go_sem, q0, q1]) rfl ⟨⟨1, x, rfl⟩, ZD.out⟩
      · go_wp2_with fail
        refine (n_any sb (2) _ HS.out.src.1 (by omega)).mono ?_
        rintro e w58 ⟨⟨k4, rfl, k4a, k4b, k4c⟩, hD⟩
        replace HS := Lib.hid (HS.out.draw hD)
        clear hD
        have k4d := k4b (by omega)
        clear k4b k4c
        obtain ⟨⟨c0, c1⟩, f0, f1⟩ := rowN2 (show World.rowIs _ _ _ 2 (rowN [.int .i64 1, .int .i64 x]) from HS.out.row)
        have hgl := HS.out.row.lt
        have hrl := HS.out.res.lt
        replace HS := Lib.hid (HS.out.set 0 (.int .i64 (4 * k4)) (by simp))
        have HSL : Hid (DaS 50 w sb r g [.int .i64 0, .int .i64 0] [.int .i64 (4 * k4), .int .i64 x] (w58.setCell ⟨g, 0, none⟩ (.int .i64 (4 * k4)))) := HS.out
        replace HS := HSL
        clear HSL
        obtain ⟨⟨o0, o1⟩, z0, z1⟩ := rowN2 (show World.rowIs _ _ _ 2 (rowN [.int .i64 0, .int .i64 0]) from HS.out.res)
        have lo := HS.out.lo
        have zr := al2put (show World.rowIs _ r 50 2 (rowN [.int .i64 0, .int .i64 0]) from HS.out.res) rfl (.int .i64 (4 * k4)) (.int .i64 (x))
        have zd : Drew sb w ((((w58.setCell ⟨g, 0, none⟩ (.int .i64 (4 * k4)))).setCell ⟨r, 0, none⟩ (.int .i64 (4 * k4))).setCell ⟨r, 1, none⟩ (.int .i64 (x))) := (aldrew_set (aldrew_set HS.out.src lo.1 lo.2.1) lo.1 lo.2.1)
        have ZR := Lib.hid zr
        have ZD := Lib.hid zd
        clear zr zd lo
        go_wp2_with fail
        obtain ⟨⟨q0, q1⟩, _⟩ := rowN2 ZR.out
        exact bodyPost_ret (v := .agg #[.int .i64 (4 * k4), .int .i64 x]) (by simp only [results, Tryd.results72]; simp [go_sem, q0, q1]) rfl ⟨⟨4 * k4, x, rfl⟩, ZD.out⟩
    · go_wp2_with fail
      refine (dvalue_any sb _ HS.out.src.1).mono ?_
      rintro e w59 ⟨⟨v9, rfl⟩, hD⟩
      replace HS := Lib.hid (HS.out.draw hD)
      clear hD
      obtain ⟨V60, hV⟩ : ∃ Z, Z = w59.setCell ⟨g, 1, none⟩ (.int .i64 (v9)) := ⟨_, rfl⟩
      have HV : Hid (V60 = w59.setCell ⟨g, 1, none⟩ (.int .i64 (v9))) := hV
      have HS2 : Hid (DaS 50 w sb r g [.int .i64 0, .int .i64 0] [.int .i64 1, .int .i64 v9] V60) := by show DaS _ _ _ _ _ _ _ _; rw [hV]; exact HS.out.set 1 (.int .i64 (v9)) (by simp)
      clear hV
      obtain ⟨⟨c0, c1⟩, f0, f1⟩ := rowN2 (show World.rowIs _ _ _ 2 (rowN [.int .i64 1, .int .i64 x]) from HS.out.row)
      have hgl := HS.out.row.lt
      have hrl := HS.out.res.lt
      go_wp2_with fail
      rw [← HV.out]
      clear HV
      replace HS := HS2
      clear HS2
      clear c0 f0 c1 f1 hgl hrl
      refine (one_any sb 300 _ HS.out.src.1 (by omega)).mono ?_
      rintro e w61 ⟨⟨bb, rfl⟩, hD⟩
      replace HS := Lib.hid (HS.out.draw hD)
      clear hD
      cases bb
      · obtain ⟨⟨c0, c1⟩, f0, f1⟩ := rowN2 (show World.rowIs _ _ _ 2 (rowN [.int .i64 1, .int .i64 v9]) from HS.out.row)
        have hgl := HS.out.row.lt
        have hrl := HS.out.res.lt
        obtain ⟨⟨o0, o1⟩, z0, z1⟩ := rowN2 (show World.rowIs _ _ _ 2 (rowN [.int .i64 0, .int .i64 0]) from HS.out.res)
        have lo := HS.out.lo
        have zr := al2put (show World.rowIs _ r 50 2 (rowN [.int .i64 0, .int .i64 0]) from HS.out.res) rfl (.int .i64 (1)) (.int .i64 (v9))
        have zd : Drew sb w (((w61).setCell ⟨r, 0, none⟩ (.int .i64 (1))).setCell ⟨r, 1, none⟩ (.int .i64 (v9))) := (aldrew_set (aldrew_set HS.out.src lo.1 lo.2.1) lo.1 lo.2.1)
        have ZR := Lib.hid zr
        have ZD := Lib.hid zd
        clear zr zd lo
        go_wp2_with fail
        obtain ⟨⟨q0, q1⟩, _⟩ := rowN2 ZR.out
        exact bodyPost_ret (v := .agg #[.int .i64 1, .int .i64 v9]) (by simp only [results, Tryd.results72]; simp [go_sem, q0, q1]) rfl ⟨⟨1, v9, rfl⟩, ZD.out⟩
      · go_wp2_with fail
        refine (n_any sb (2) _ HS.out.src.1 (by omega)).mono ?_
        rintro e w62 ⟨⟨k4, rfl, k4a, k4b, k4c⟩, hD⟩
        replace HS := Lib.hid (HS.out.draw hD)
        clear hD
        have k4d := k4b (by omega)
        clear k4b k4c
        obtain ⟨⟨c0, c1⟩, f0, f1⟩ := rowN2 (show World.rowIs _ _ _ 2 (rowN [.int .i64 1, .int .i64 v9]) from HS.out.row)
        have hgl := HS.out.row.lt
        have hrl := HS.out.res.lt
        replace HS := Lib.hid (HS.out.set 0 (.int .i64 (4 * k4)) (by simp))
        have HSL : Hid (DaS 50 w sb r g [.int .i64 0, .int .i64 0] [.int .i64 (4 * k4), .int .i64 v9] (w62.setCell ⟨g, 0, none⟩ (.int .i64 (4 * k4)))) := HS.out
        replace HS := HSL
        clear HSL
        obtain ⟨⟨o0, o1⟩, z0, z1⟩ := rowN2 (show World.rowIs _ _ _ 2 (rowN [.int .i64 0, .int .i64 0]) from HS.out.res)
        have lo := HS.out.lo
        have zr := al2put (show World.rowIs _ r 50 2 (rowN [.int .i64 0, .int .i64 0]) from HS.out.res) rfl (.int .i64 (4 * k4)) (.int .i64 (v9))
        have zd : Drew sb w ((((w62.setCell ⟨g, 0, none⟩ (.int .i64 (4 * k4)))).setCell ⟨r, 0, none⟩ (.int .i64 (4 * k4))).setCell ⟨r, 1, none⟩ (.int .i64 (v9))) := (aldrew_set (aldrew_set HS.out.src lo.1 lo.2.1) lo.1 lo.2.1)
        have ZR := Lib.hid zr
        have ZD := Lib.hid zd
        clear zr zd lo
        go_wp2_with fail
        obtain ⟨⟨q0, q1⟩, _⟩ := rowN2 ZR.out
        exact bodyPost_ret (v := .agg #[.int .i64 (4 * k4), .int .i64 v9]) (by simp only [results, Tryd.results72]; simp [go_sem, q0, q1]) rfl ⟨⟨4 * k4, v9, rfl⟩, ZD.out⟩
theorem dainfo : (Tryd.prog.info? 50).map (fun i => (i.zero, i.size, i.bytes)) = some (some (.agg #[.int .i64 0, .int .i64 0]), 2, 16) := by kernel_rfl
/-- What stands while acts are drawn. -/
def DcS (w : World) (sb : Nat) (v : Value) (zs : List (Int × Int)) (W : World) : Prop := W.ownsRow w.heap.size 50 2 v zs.length (nvs zs) ∧ Drew sb w W ∧ sb < w.heap.size
theorem own_far {B n : Nat} {e : TypeId} {v : Value} {xs : List Value} {W W' : World} (h : W.ownsRow B e 2 v n xs) (hb : ∀ k, v.ownBlock = some k → k < W.heap.size → W'.heap[k]? = W.heap[k]?) : W'.ownsRow B e 2 v n xs := by
  obtain ⟨h1, h2⟩ := h
  refine ⟨h1, ?_⟩
  rcases h2 with h2 | ⟨g, cap, cur, e1, e2, e3, e4⟩
  · exact Or.inl h2
  · refine Or.inr ⟨g, cap, cur, e1, e2, ?_, e4⟩
    have hlt : g < W.heap.size := by
      rcases Nat.lt_or_ge g W.heap.size with h | h
      · exact h
      · rw [Array.getElem?_eq_none h] at e3; cases e3
    rw [hb g (by rw [e1]; rfl) hlt]; exact e3
theorem DcS.draw {w : World} {sb : Nat} {v : Value} {zs : List (Int × Int)} {W W' : World} (h : DcS w sb v zs W) (hd : Drew sb W W') : DcS w sb v zs W' :=
  ⟨own_far h.1 (fun k hk hl => hd.2.2.2.2.2 k hl (by have := (h.1.lt k hk).1; have := h.2.2; omega)), aldrew_more h.2.1 hd, h.2.2⟩
theorem DcS.push {w : World} {sb : Nat} {v v' : Value} {zs : List (Int × Int)} {x : Int × Int} {W W' : World} {o : Obj} (h : DcS w sb v zs W) (hg : (W.alloc o).grownBy W' v.ownBlock)
    (hown : W'.ownsRow w.heap.size 50 2 v' (zs ++ [x]).length (nvs (zs ++ [x]))) : DcS w sb v' (zs ++ [x]) W' := by
  have hz := h.2.1.2.2.2.2.1
  have hrow : ∀ k, v.ownBlock = some k → w.heap.size ≤ k := fun k e => (h.1.lt k e).1
  have hk : ∀ k, k < w.heap.size → W'.heap[k]? = W.heap[k]? := fun k hk => by
    rw [hg.block k (by simp; omega) (fun e => by have := hrow k e.symm; omega)]
    exact blk_alloc_lt _ _ _ (by omega)
  refine ⟨hown, ⟨alsrc_keep h.2.1.1 (fun k hk2 => hk k (by have := h.2.2; omega)), ?_⟩, h.2.2⟩
  exact ⟨hg.os.trans h.2.1.2.1, hg.tape.trans h.2.1.2.2.1, hg.output.trans h.2.1.2.2.2.1, by have := hg.size; simp at this; omega, fun k hk1 hk2 => (hk k hk1).trans (h.2.1.2.2.2.2.2 k hk1 hk2)⟩
set_option maxRecDepth 100000 in
set_option maxHeartbeats 16000000 in
theorem dacts_any (sb : Nat) (w : World) (h : Src sb w) :
    Calls Tryd.prog 38 #[.pointer (some ⟨sb, 0, none⟩)] w fun e w' => (∃ a n c, e = .returned (.slice a n c)) ∧ Drew sb w w' := by
  obtain ⟨i0, hi0, hz0, hz1, hz2⟩ := info_parts dainfo
  have H := Lib.hid h
  have hlt := h.lt
  obtain ⟨a, len, cap, at_, mix, size, hS, h1, h2, h3, h4, h5, h6⟩ := h
  obtain ⟨s0, s1, s2, s3, _⟩ := hS
  clear h1 h2 h3 h6
  go_enter Tryd.func38, Tryd.ntmps38
  go_wp2_with fail
  refine (n_any sb (6 + 2 * size) _ H.out (by omega)).mono ?_
  rintro e w1 ⟨⟨v, rfl, va, vb, vc⟩, hD⟩
  have vd : v ≤ 400 := by
    have := vb (by omega)
    omega
  have HD := Lib.hid hD
  have HLT := Lib.hid hlt
  clear hD vb vc s0 s1 s2 s3 h4 h5 hlt
  go_wp2_with fail
  refine (one_any sb 60 _ HD.out.1 (by omega)).mono ?_
  rintro e w2 ⟨⟨bb, rfl⟩, hD⟩
  have HD2 := Lib.hid (aldrew_more HD.out hD)
  clear hD HD
  cases bb
  · obtain ⟨N, hN⟩ : ∃ N : Nat, v = (N : Int) := ⟨v.toNat, by omega⟩
    subst hN
    have hN4 : N ≤ 400 := by omega
    clear va vd
    have HST : Hid (DcS w2 sb (.slice (some ⟨w2.heap.size, 0, none⟩) 0 0) [] (w2.alloc (.cells #[] 50))) := ⟨World.ownsRow_made (e := 50) (size := 2) w2 #[] 0 (Nat.le_refl _) (Nat.zero_le _) rfl, aldrew_bel (V := w2) ⟨HD2.out.1, Chg.refl _ _⟩ (nbel_alloc _ _), HD2.out.1.lt⟩
    go_wp2_with fail
    go_loopw [3, 4] (fun nv lv wr => ∃ (i : Nat) (zs : List (Int × Int)), i ≤ N ∧ nv = .int .i64 ((N : Int) - (i : Int)) ∧ Hid (DcS w2 sb lv zs wr) ∧ Hid (zs.length = i)) (fun nv _ _ => (intOf nv).toNat)
    case atStart => exact ⟨0, [], Nat.zero_le _, by simp <;> omega, HST, rfl⟩
    case round =>
      obtain ⟨i, zs, hi, rfl, hS, hz⟩ := hrel
      clear HST
      obtain ⟨la, lc, rfl, _⟩ := own_ns hS.out.1
      by_cases hlt : i < N
      · have hltz : (0 : Int) < (N : Int) - (i : Int) := by omega
        have HLN : Hid (zs.length ≤ 400) := by show zs.length ≤ 400; rw [hz.out]; omega
        go_wp2_with fail
        refine (dact_any sb _ hS.out.2.1.1).mono ?_
        rintro e w9 ⟨⟨k, x, rfl⟩, hD⟩
        have HS2 := Lib.hid (hS.out.draw hD)
        have HO : Hid ((w9.alloc (.cells #[.int .i64 k, .int .i64 x] 50)).ownsRow w2.heap.size 50 2 (.slice la zs.length lc) zs.length (nvs zs)) := HS2.out.1.alloc _
        have HM := Lib.hid (one_in w9 50 k x)
        have HSZ : Hid (w2.heap.size ≤ w9.heap.size) := HS2.out.2.1.2.2.2.2.1
        clear hD hS
        go_wp2_with (at_builtin; refine wpList_append_ns (l := zs) (m := [(k, x)]) rfl _ _ 41 rfl 50 i0 (.agg #[.int .i64 0, .int .i64 0]) 16 Tryd.underlying41 hi0 hz0 hz1 hz2 rfl w2.heap.size _ rfl HO.out (some ⟨w9.heap.size, 0, none⟩) 1 rfl HM.out (by have := HLN.out; unfold maxLen; simp; omega) (by have := HLN.out; simp; omega) (by have := HSZ.out; simp; omega) ?_)
        intro v' y3 hown hgrow
        have hown2 : y3.ownsRow w2.heap.size 50 2 v' (zs ++ [(k, x)]).length (nvs (zs ++ [(k, x)])) := by simpa using hown
        have HP := Lib.hid (HS2.out.push hgrow hown2)
        clear hown hown2 hgrow HS2 HO HM
        go_wp2_with fail
        go_roundw
        case rel => exact ⟨i + 1, zs ++ [(k, x)], by omega, by first | rfl | (simp; omega), HP, by show _ = _; simp [hz.out]⟩
        case measure => simp [intOf]; omega
      · obtain rfl : i = N := by omega
        have hnz : ¬ (0 : Int) < (i : Int) - (i : Int) := by omega
        have HE := Lib.hid (aldrew_more HD2.out hS.out.2.1)
        clear hS
        go_wp2_with fail
        go_ret
        exact ⟨⟨_, _, _, rfl⟩, HE.out⟩
  · go_wp2_with fail
    refine (n_any sb 3 _ HD2.out.1 (by omega)).mono ?_
    rintro e w3 ⟨⟨u, rfl, ua, ub, uc⟩, hD⟩
    have ud := ub (by omega)
    have HD3 := Lib.hid (aldrew_more HD2.out hD)
    obtain ⟨N, hN⟩ : ∃ N : Nat, 299 + u = (N : Int) := ⟨(299 + u).toNat, by omega⟩
    have hN4 : N ≤ 400 := by omega
    obtain ⟨U, hU⟩ : ∃ U : Int, U = 299 + u := ⟨_, rfl⟩
    have hUN : U = (N : Int) := by omega
    have HWR : Hid (IntKind.i64.wrap (299 + u) = (N : Int)) := by show _ = _; rw [← hN]; exact awrap_id (by omega) (by omega)
    have huz : u = (N : Int) - 299 := by omega
    subst huz
    clear hD ub uc HD2 hN hU hUN va vd ua ud HWR
    have HST : Hid (DcS w3 sb (.slice (some ⟨w3.heap.size, 0, none⟩) 0 0) [] (w3.alloc (.cells #[] 50))) := ⟨World.ownsRow_made (e := 50) (size := 2) w3 #[] 0 (Nat.le_refl _) (Nat.zero_le _) rfl, aldrew_bel (V := w3) ⟨HD3.out.1, Chg.refl _ _⟩ (nbel_alloc _ _), HD3.out.1.lt⟩
    go_wp2_with fail
    go_loopw [3, 4] (fun nv lv wr => ∃ (i : Nat) (zs : List (Int × Int)), i ≤ N ∧ nv = .int .i64 ((N : Int) - (i : Int)) ∧ Hid (DcS w3 sb lv zs wr) ∧ Hid (zs.length = i)) (fun nv _ _ => (intOf nv).toNat)
    case atStart => exact ⟨0, [], Nat.zero_le _, by simp <;> omega, HST, rfl⟩
    case round =>
      obtain ⟨i, zs, hi, rfl, hS, hz⟩ := hrel
      clear HST
      obtain ⟨la, lc, rfl, _⟩ := own_ns hS.out.1
      by_cases hlt : i < N
      · have hltz : (0 : Int) < (N : Int) - (i : Int) := by omega
        have HLN : Hid (zs.length ≤ 400) := by show zs.length ≤ 400; rw [hz.out]; omega
        go_wp2_with fail
        refine (dact_any sb _ hS.out.2.1.1).mono ?_
        rintro e w9 ⟨⟨k, x, rfl⟩, hD⟩
        have HS2 := Lib.hid (hS.out.draw hD)
        have HO : Hid ((w9.alloc (.cells #[.int .i64 k, .int .i64 x] 50)).ownsRow w3.heap.size 50 2 (.slice la zs.length lc) zs.length (nvs zs)) := HS2.out.1.alloc _
        have HM := Lib.hid (one_in w9 50 k x)
        have HSZ : Hid (w3.heap.size ≤ w9.heap.size) := HS2.out.2.1.2.2.2.2.1
        clear hD hS
        go_wp2_with (at_builtin; refine wpList_append_ns (l := zs) (m := [(k, x)]) rfl _ _ 41 rfl 50 i0 (.agg #[.int .i64 0, .int .i64 0]) 16 Tryd.underlying41 hi0 hz0 hz1 hz2 rfl w3.heap.size _ rfl HO.out (some ⟨w9.heap.size, 0, none⟩) 1 rfl HM.out (by have := HLN.out; unfold maxLen; simp; omega) (by have := HLN.out; simp; omega) (by have := HSZ.out; simp; omega) ?_)
        intro v' y3 hown hgrow
        have hown2 : y3.ownsRow w3.heap.size 50 2 v' (zs ++ [(k, x)]).length (nvs (zs ++ [(k, x)])) := by simpa using hown
        have HP := Lib.hid (HS2.out.push hgrow hown2)
        clear hown hown2 hgrow HS2 HO HM
        go_wp2_with fail
        go_roundw
        case rel => exact ⟨i + 1, zs ++ [(k, x)], by omega, by first | rfl | (simp; omega), HP, by show _ = _; simp [hz.out]⟩
        case measure => simp [intOf]; omega
      · obtain rfl : i = N := by omega
        have hnz : ¬ (0 : Int) < (i : Int) - (i : Int) := by omega
        have HE := Lib.hid (aldrew_more HD3.out hS.out.2.1)
        clear hS
        go_wp2_with fail
        go_ret
        exact ⟨⟨_, _, _, rfl⟩, HE.out⟩
set_option maxRecDepth 100000 in
set_option maxHeartbeats 16000000 in
theorem drawAR_any (a : Option Addr) (len cap : Nat) (w : World) (h : Bytes a len w) (hl : len ≤ 4194304) :
    Calls Tryd.prog 11 #[.slice a len cap] w fun e w' => (∃ (X : Al.A) (b : Option Addr) (n c : Nat), e = .returned (.tuple #[alV X, .slice b n c])) ∧ Below w.heap.size w w' := by
  have H := Lib.hid h
  clear h
  obtain ⟨W, hW⟩ : ∃ W, W = w.alloc (.cells #[.int .i64 0, .int .i64 0, .int .i64 0, .int .i64 0, .int .i64 0, .int .i64 0] 40) := ⟨_, rfl⟩
  have HR : Hid (W.rowIs w.heap.size 40 6 (rowN [.int .i64 0, .int .i64 0, .int .i64 0, .int .i64 0, .int .i64 0, .int .i64 0])) := by show World.rowIs _ _ _ _ _; rw [hW]; exact rowN_alloc w [.int .i64 0, .int .i64 0, .int .i64 0, .int .i64 0, .int .i64 0, .int .i64 0] _
  have HB : Hid (Below w.heap.size w W) := by show Below _ _ _; rw [hW]; exact nbel_alloc _ _
  have HW := Lib.hid hW
  clear hW
  go_enter Tryd.func11, Tryd.ntmps11
  go_wp2_with fail
  rw [← HW.out]
  clear HW
  refine (source_any a len cap _ (H.out.below HB.out) hl).mono ?_
  rintro e w1 ⟨rfl, hs, hb⟩
  obtain ⟨sb, hsb⟩ : ∃ s, s = W.heap.size := ⟨_, rfl⟩
  rw [← hsb] at hs ⊢
  have HS := Lib.hid hs
  have HR1 := Lib.hid (nrow_below HR.out hb)
  have HB1 : Hid (Below w.heap.size w w1) := HB.out.trans (hb.mono HB.out.size)
  have HSB : Hid (w.heap.size < sb) := by show _ < _; rw [hsb]; exact HR.out.lt
  clear hs hb HR HB hsb H
  go_wp2_with fail
  refine (dalarm_any sb _ HS.out).mono ?_
  rintro e w2 ⟨⟨X, rfl⟩, hD⟩
  have HS2 := Lib.hid hD.1
  have HR2 := Lib.hid (HR1.out.of_block (hD.2.2.2.2.2 _ HR1.out.lt (by have := HSB.out; omega)))
  have HB2 : Hid (Below w.heap.size w w2) := HB1.out.trans (hD.2.below (Nat.le_of_lt HSB.out) HB1.out.size)
  clear hD HS HR1 HB1
  obtain ⟨V, hV⟩ : ∃ V, V = w2.alloc (.cells #[.int .i64 X.hi, .int .i64 X.lo, .int .i64 X.dl, .int .i64 X.st, .int .i64 X.ct, .int .i64 X.sh] 40) := ⟨_, rfl⟩
  obtain ⟨g, hg⟩ : ∃ g, g = w2.heap.size := ⟨_, rfl⟩
  have HQ : Hid (V.rowIs g 40 6 (rowN (alL X)) ∧ V.rowIs w.heap.size 40 6 (rowN [.int .i64 0, .int .i64 0, .int .i64 0, .int .i64 0, .int .i64 0, .int .i64 0]) ∧ Src sb V ∧ Below w.heap.size w V ∧ sb < g) := by
    show _ ∧ _
    rw [hV, hg]
    exact ⟨rowN_alloc w2 (alL X) _, nrow_below HR2.out (nbel_alloc _ _), HS2.out.below (nbel_alloc _ _), HB2.out.alloc HB2.out.size _, HS2.out.lt⟩
  have HV := Lib.hid hV
  have HG := Lib.hid hg
  clear hV hg HR2 HS2 HB2
  go_wp2_with fail
  rw [← HG.out, ← HV.out]
  clear HG HV
  refine wp_region_held_drew (S := fun Y => Y.rowIs g 40 6 (rowN (alL X))) (by kernel_rfl) (HQ.out.1.of_block rfl) (fun hHeld => ?_)
  obtain ⟨Z, hZ⟩ : ∃ Z, Z = V.drew := ⟨_, rfl⟩
  have HZQ : Hid (Z.rowIs w.heap.size 40 6 (rowN [.int .i64 0, .int .i64 0, .int .i64 0, .int .i64 0, .int .i64 0, .int .i64 0]) ∧ Src sb Z ∧ Below w.heap.size w Z ∧ w.heap.size < sb ∧ sb < g) := by
    show _ ∧ _
    rw [hZ]
    exact ⟨HQ.out.2.1.of_block rfl, HQ.out.2.2.1.below (Below.refl _ _).drew, HQ.out.2.2.2.1.trans ((Below.refl _ _).drew.mono HQ.out.2.2.2.1.size), HSB.out, HQ.out.2.2.2.2⟩
  rw [← hZ] at hHeld ⊢
  clear hZ HQ HSB
  refine take_do (i := 0) (v := (alV X)) rfl (by kernel_rfl) (by kernel_rfl) (by kernel_rfl) (fun _ _ _ h => h) (by rfl) ?_ (by assumption) ?_
  · intro w hSw
    obtain ⟨⟨c0, c1, c2, c3, c4, c5⟩, _⟩ := rowN6 hSw
    go_simp
  simp only [Act.put, List.setIfInBounds_toArray, List.set_cons_zero, List.set_cons_succ]
  refine take_do (i := 1) (v := (.pointer (some ⟨sb, 0, none⟩))) rfl (by kernel_rfl) (by kernel_rfl) (by kernel_rfl) (fun _ _ _ h => h) (by rfl) ?_ (by assumption) ?_
  · intro w hSw
    go_simp
  simp only [Act.put, List.setIfInBounds_toArray, List.set_cons_zero, List.set_cons_succ]
  refine take_call (i := 2) rfl (by kernel_rfl) (fun K2 hK => ?_)
  go_simp
  refine (dacts_any sb _ HZQ.out.2.1).mono ?_
  rintro e w3 ⟨⟨b, n, c, rfl⟩, hD⟩
  have HR3 := Lib.hid (HZQ.out.1.of_block (hD.2.2.2.2.2 _ HZQ.out.1.lt (by have := HZQ.out.2.2.2.1; omega)))
  have HB3 : Hid (Below w.heap.size w w3) := HZQ.out.2.2.1.trans (hD.2.below (Nat.le_of_lt HZQ.out.2.2.2.1) HZQ.out.2.2.1.size)
  have HL3 : Hid (w.heap.size ≠ g) := by have := HZQ.out.2.2.2; show _ ≠ _; omega
  go_wp2_with fail
  refine hK.out _ _ (hHeld.of_block (hD.2.2.2.2.2 _ hHeld.lt (by have := HZQ.out.2.2.2.2; omega))) (fun hHeld2 => ?_)
  clear hK hHeld hD HZQ
  have hHeld := hHeld2
  clear hHeld2
  obtain ⟨⟨o0, o1, o2, o3, o4, o5⟩, z0, z1, z2, z3, z4, z5⟩ := rowN6 HR3.out
  have hol := HR3.out.lt
  have zr := al6put HR3.out rfl (.int .i64 X.hi) (.int .i64 X.lo) (.int .i64 X.dl) (.int .i64 X.st) (.int .i64 X.ct) (.int .i64 X.sh)
  have zb := al6bel (g := w.heap.size) HB3.out (Nat.le_refl _) (.int .i64 X.hi) (.int .i64 X.lo) (.int .i64 X.dl) (.int .i64 X.st) (.int .i64 X.ct) (.int .i64 X.sh)
  have zh := hHeld.of_block (al6blk (W := w3) (k := g) (g := w.heap.size) (fun e => HL3.out e.symm) (.int .i64 X.hi) (.int .i64 X.lo) (.int .i64 X.dl) (.int .i64 X.st) (.int .i64 X.ct) (.int .i64 X.sh))
  refine take_call (i := 3) rfl (by kernel_rfl) (fun K2 hK => ?_)
  go_simp
  clear o0 o1 o2 o3 o4 o5 z0 z1 z2 z3 z4 z5
  generalize ((((((w3).setCell ⟨w.heap.size, 0, none⟩ (.int .i64 X.hi)).setCell ⟨w.heap.size, 1, none⟩ (.int .i64 X.lo)).setCell ⟨w.heap.size, 2, none⟩ (.int .i64 X.dl)).setCell ⟨w.heap.size, 3, none⟩ (.int .i64 X.st)).setCell ⟨w.heap.size, 4, none⟩ (.int .i64 X.ct)).setCell ⟨w.heap.size, 5, none⟩ (.int .i64 X.sh) = Y at zr zb zh ⊢
  refine hK.out _ _ zh (fun hHeld2 => ?_)
  clear hK hHeld hHeld2
  have ZR := Lib.hid zr
  have ZB := Lib.hid zb
  refine take_do (i := 4) (v := (.slice b n c)) rfl (by kernel_rfl) (by kernel_rfl) (by kernel_rfl) (fun _ _ _ h => h) (by rfl) ?_ zh ?_
  · intro w hSw
    go_simp
  simp only [Act.put, List.setIfInBounds_toArray, List.set_cons_zero, List.set_cons_succ]
  refine wpAnyH_done (by kernel_rfl) ?_ _
  clear zr zb zh
  go_wp2_with fail
  obtain ⟨⟨p0, p1, p2, p3, p4, p5⟩, _⟩ := rowN6 ZR.out
  exact bodyPost_ret (v := .tuple #[alV X, .slice b n c]) (by simp only [results, Tryd.results11]; simp [go_sem, p0, p1, p2, p3, p4, p5]) rfl ⟨⟨X, b, n, c, rfl⟩, ZB.out⟩
end Go.Proofs.YtmejmpdljckfgaaDoor
