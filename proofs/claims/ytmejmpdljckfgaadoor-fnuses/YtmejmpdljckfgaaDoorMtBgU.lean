/-
  Joined: MtDm, MtDq, MtDs, MtPa, UsMem.
-/
import Derived.Test.YtmejmpdljckfgaaDoorAlDr
import Derived.Test.YtmejmpdljckfgaaDoorMtMem
import Derived.Test.YtmejmpdljckfgaaDoorMtS1
import Derived.Deep.DeepCutAuto
import Derived.Test.YtmejmpdljckfgaaDoorMtS2
import Derived.Test.YtmejmpdljckfgaaDoorHsPk
import Derived.Test.YtmejmpdljckfgaaDoorMtMath
import Derived.Test.YtmejmpdljckfgaaDoorLnMem
import Derived.Test.YtmejmpdljckfgaaDoorCyMem
import Derived.Laws.AppendOwn
namespace Go.Proofs.YtmejmpdljckfgaaDoor
open Go Go.RowKit Go.Deep

theorem dm4put {T : TypeId} {g : Nat} {W : World} {l : List Value} (h : W.rowIs g T 4 (rowN l)) (hl : l.length = 4) (a b c d : Value) :
    ((((W.setCell ⟨g, 0, none⟩ a).setCell ⟨g, 1, none⟩ b).setCell ⟨g, 2, none⟩ c).setCell ⟨g, 3, none⟩ d).rowIs g T 4 (rowN [a, b, c, d]) := by
  match l, hl with
  | [_, _, _, _], _ => exact rowN_put (rowN_put (rowN_put (rowN_put h 0 a (by simp)) 1 b (by simp)) 2 c (by simp)) 3 d (by simp)
set_option maxRecDepth 100000 in
set_option maxHeartbeats 16000000 in
theorem dmeter_any (sb : Nat) (w : World) (h : Src sb w) :
    Calls Tryd.prog 29 #[.pointer (some ⟨sb, 0, none⟩)] w fun e w' => (∃ m : Mt.M, e = .returned (mtV m)) ∧ Drew sb w w' := by
  obtain ⟨W, hW⟩ : ∃ W, W = w.alloc (.cells #[.int .i64 0, .int .i64 0, .int .i64 0, .int .i64 0] 24) := ⟨_, rfl⟩
  obtain ⟨r, hr⟩ : ∃ r, r = w.heap.size := ⟨_, rfl⟩
  have HR : Hid (W.rowIs r 24 4 (rowN [.int .i64 0, .int .i64 0, .int .i64 0, .int .i64 0])) := by show World.rowIs _ _ _ _ _; rw [hW, hr]; exact rowN_alloc w [.int .i64 0, .int .i64 0, .int .i64 0, .int .i64 0] _
  have HD : Hid (Drew sb w W) := by show Drew _ _ _; rw [hW]; exact aldrew_bel (V := w) ⟨h, Chg.refl _ _⟩ (nbel_alloc _ _)
  have HL : Hid (sb < w.heap.size ∧ w.heap.size ≤ r) := ⟨h.lt, by omega⟩
  have HW := Lib.hid hW
  have HRR := Lib.hid hr
  clear hW hr h
  go_enter Tryd.func29, Tryd.ntmps29
  go_wp2_with fail
  rw [← HRR.out, ← HW.out]
  clear HW HRR
  refine (n_any sb 3 _ HD.out.1 (by omega)).mono ?_
  rintro e wa ⟨⟨x, rfl, xa, xb, xc⟩, hD⟩
  have xd := xb (by omega)
  have HR2 := Lib.hid (HR.out.of_block (hD.2.2.2.2.2 r HR.out.lt (by have := HL.out; omega)))
  have HD2 := Lib.hid (aldrew_more HD.out hD)
  clear hD HR HD xb xc
  have HR := HR2
  have HD := HD2
  clear HR2 HD2
  go_wp2_with fail
  refine (n_any sb 40 _ HD.out.1 (by omega)).mono ?_
  rintro e wb ⟨⟨y, rfl, ya, yb, yc⟩, hD⟩
  have yd := yb (by omega)
  have HR2 := Lib.hid (HR.out.of_block (hD.2.2.2.2.2 r HR.out.lt (by have := HL.out; omega)))
  have HD2 := Lib.hid (aldrew_more HD.out hD)
  clear hD HR HD yb yc
  have HR := HR2
  have HD := HD2
  clear HR2 HD2
  go_wp2_with fail
  refine (n_any sb 50 _ HD.out.1 (by omega)).mono ?_
  rintro e wc ⟨⟨z, rfl, za, zb, zc⟩, hD⟩
  have zd := zb (by omega)
  have HR2 := Lib.hid (HR.out.of_block (hD.2.2.2.2.2 r HR.out.lt (by have := HL.out; omega)))
  have HD2 := Lib.hid (aldrew_more HD.out hD)
  clear hD HR HD zb zc
  have HR := HR2
  have HD := HD2
  clear HR2 HD2
  obtain ⟨d, hd⟩ : ∃ q, q = 3 + x := ⟨_, rfl⟩
  have hdb : 3 ≤ d ∧ d ≤ 5 := by omega
  obtain ⟨V0, hV0⟩ : ∃ V, V = wc.alloc (.cells #[.int .i64 (3 + x), .int .i64 y, .int .i64 z, .int .i64 0] 24) := ⟨_, rfl⟩
  obtain ⟨g, hg⟩ : ∃ g, g = wc.heap.size := ⟨_, rfl⟩
  have HS : Hid (DaS 24 w sb r g [.int .i64 0, .int .i64 0, .int .i64 0, .int .i64 0] [.int .i64 d, .int .i64 y, .int .i64 z, .int .i64 0] V0) := by
    show DaS _ _ _ _ _ _ _ _
    rw [hV0, hg, hd]
    exact ⟨rowN_alloc wc [.int .i64 (3 + x), .int .i64 y, .int .i64 z, .int .i64 0] _, nrow_below HR.out (nbel_alloc _ _), aldrew_bel HD.out (nbel_alloc _ _), HL.out.1, HL.out.2, HR.out.lt⟩
  have HV0 := Lib.hid hV0
  have HG := Lib.hid hg
  have HDD := Lib.hid hd
  obtain ⟨F, hF⟩ : ∃ F, F = Mt.full d := ⟨_, rfl⟩
  have hF0 : 1 ≤ F ∧ F ≤ 10000000 := by rw [hF]; exact Mt.full_bd (by omega)
  have HF := Lib.hid hF
  clear hV0 hg hd HR HD HL hF
  go_wp2_with fail
  rw [← HG.out, ← HV0.out, ← HDD.out]
  clear HG HV0
  refine (sfull_any d ⟨by omega, by omega⟩ _).mono ?_
  rintro e w4 ⟨rfl, rfl⟩
  rw [← HF.out]
  go_wp2_with fail
  refine (n_any sb (F) _ HS.out.src.1 (by omega)).mono ?_
  rintro e w1 ⟨⟨s, rfl, s0_, s1_, s2_⟩, hD⟩
  replace HS := Lib.hid (HS.out.draw hD)
  clear hD
  clear s1_ s2_
  obtain ⟨V1, hV⟩ : ∃ Z, Z = w1.setCell ⟨g, 3, none⟩ (.int .i64 s) := ⟨_, rfl⟩
  have HV := Lib.hid hV
  have HS2 : Hid (DaS 24 w sb r g [.int .i64 0, .int .i64 0, .int .i64 0, .int .i64 0] [.int .i64 d, .int .i64 y, .int .i64 z, .int .i64 s] V1) := by show DaS _ _ _ _ _ _ _ _; rw [hV]; exact HS.out.set 3 (.int .i64 s) (by simp)
  clear hV
  obtain ⟨⟨c0, c1, c2, c3⟩, f0, f1, f2, f3⟩ := rowN4 (show World.rowIs _ _ _ 4 (rowN [.int .i64 d, .int .i64 y, .int .i64 z, .int .i64 0]) from HS.out.row)
  have hgl := HS.out.row.lt
  have hrl := HS.out.res.lt
  go_wp2_with fail
  rw [← HV.out]
  clear HV
  replace HS := HS2
  clear HS2
  clear c0 f0 c1 f1 c2 f2 c3 f3 hgl hrl
  refine (one_any sb 15 _ HS.out.src.1 (by omega)).mono ?_
  rintro e w2 ⟨⟨bb, rfl⟩, hD⟩
  replace HS := Lib.hid (HS.out.draw hD)
  clear hD
  cases bb
  · obtain ⟨⟨c0, c1, c2, c3⟩, f0, f1, f2, f3⟩ := rowN4 (show World.rowIs _ _ _ 4 (rowN [.int .i64 d, .int .i64 y, .int .i64 z, .int .i64 s]) from HS.out.row)
    have hgl := HS.out.row.lt
    have hrl := HS.out.res.lt
    obtain ⟨⟨o0, o1, o2, o3⟩, z0, z1, z2, z3⟩ := rowN4 (show World.rowIs _ _ _ 4 (rowN [.int .i64 0, .int .i64 0, .int .i64 0, .int .i64 0]) from HS.out.res)
    have lo := HS.out.lo
    have zr := dm4put (show World.rowIs _ r 24 4 (rowN [.int .i64 0, .int .i64 0, .int .i64 0, .int .i64 0]) from HS.out.res) rfl (.int .i64 (d)) (.int .i64 (y)) (.int .i64 (z)) (.int .i64 (s))
    have zd : Drew sb w (((((w2).setCell ⟨r, 0, none⟩ (.int .i64 (d))).setCell ⟨r, 1, none⟩ (.int .i64 (y))).setCell ⟨r, 2, none⟩ (.int .i64 (z))).setCell ⟨r, 3, none⟩ (.int .i64 (s))) := (aldrew_set (aldrew_set (aldrew_set (aldrew_set HS.out.src lo.1 lo.2.1) lo.1 lo.2.1) lo.1 lo.2.1) lo.1 lo.2.1)
    have ZR := Lib.hid zr
    have ZD := Lib.hid zd
    clear zr zd lo
    go_wp2_with fail
    obtain ⟨⟨q0, q1, q2, q3⟩, _⟩ := rowN4 ZR.out
    exact bodyPost_ret (v := .agg #[.int .i64 d, .int .i64 y, .int .i64 z, .int .i64 s]) (by simp only [results, Tryd.results29]; simp [go_sem, q0, q1, q2, q3]) rfl ⟨⟨⟨d, y, z, s⟩, rfl⟩, ZD.out⟩
  · go_wp2_with fail
    refine (n_any sb (4) _ HS.out.src.1 (by omega)).mono ?_
    rintro e w3 ⟨⟨k, rfl, ka, kb, kc⟩, hD⟩
    replace HS := Lib.hid (HS.out.draw hD)
    clear hD
    have kd := kb (by omega)
    clear kb kc
    rcases (show k = 0 ∨ k = 1 ∨ k = 2 ∨ k = 3 by omega) with rfl | rfl | rfl | rfl
    · have hba : Below w3.heap.size w3 (w3.alloc (.cells #[.int .i64 2, .int .i64 7, .int .i64 8] 2)) := nbel_alloc _ _
      have hlx : sb < w3.heap.size := HS.out.src.1.lt
      replace HS := Lib.hid (HS.out.bel hba)
      clear ka kd
      go_wp2_with fail
      refine (n_any sb 3 _ HS.out.src.1 (by omega)).mono ?_
      rintro e w4 ⟨⟨q, rfl, qa, qb, qc⟩, hD⟩
      have qd : q < 3 := qb (by omega)
      have hrow : w4.rowIs w3.heap.size 2 3 (rowN [.int .i64 2, .int .i64 7, .int .i64 8]) := (rowN_alloc w3 [.int .i64 2, .int .i64 7, .int .i64 8] 2).of_block (hD.2.2.2.2.2 w3.heap.size (by simp) (fun e2 => by omega))
      replace HS := Lib.hid (HS.out.draw hD)
      obtain ⟨⟨d0, d1, d2⟩, _⟩ := rowN3 hrow
      obtain ⟨j, rfl⟩ : ∃ j : Nat, q = j := ⟨q.toNat, by omega⟩
      obtain ⟨u, hu⟩ : ∃ u : Int, w4.cell? ⟨w3.heap.size, j, none⟩ = some (.int .i64 u) := by
        have : j = 0 ∨ j = 1 ∨ j = 2 := by omega
        rcases this with rfl | rfl | rfl
        · exact ⟨_, d0⟩
        · exact ⟨_, d1⟩
        · exact ⟨_, d2⟩
      have hrw := hrow.lt
      have hjz : (j : Int) < 3 := by omega
      clear hD qb qc hba hrow d0 d1 d2 hlx
      obtain ⟨⟨c0, c1, c2, c3⟩, f0, f1, f2, f3⟩ := rowN4 (show World.rowIs _ _ _ 4 (rowN [.int .i64 d, .int .i64 y, .int .i64 z, .int .i64 s]) from HS.out.row)
      have hgl := HS.out.row.lt
      have hrl := HS.out.res.lt
      have HSL : Hid (DaS 24 w sb r g [.int .i64 0, .int .i64 0, .int .i64 0, .int .i64 0] [.int .i64 u, .int .i64 y, .int .i64 z, .int .i64 s] (w4.setCell ⟨g, 0, none⟩ (.int .i64 (u)))) := HS.out.set 0 (.int .i64 (u)) (by simp)
      replace HS := HSL
      clear HSL
      obtain ⟨⟨o0, o1, o2, o3⟩, z0, z1, z2, z3⟩ := rowN4 (show World.rowIs _ _ _ 4 (rowN [.int .i64 0, .int .i64 0, .int .i64 0, .int .i64 0]) from HS.out.res)
      have lo := HS.out.lo
      have zr := dm4put (show World.rowIs _ r 24 4 (rowN [.int .i64 0, .int .i64 0, .int .i64 0, .int .i64 0]) from HS.out.res) rfl (.int .i64 (u)) (.int .i64 (y)) (.int .i64 (z)) (.int .i64 (s))
      have zd : Drew sb w ((((((w4.setCell ⟨g, 0, none⟩ (.int .i64 (u)))).setCell ⟨r, 0, none⟩ (.int .i64 (u))).setCell ⟨r, 1, none⟩ (.int .i64 (y))).setCell ⟨r, 2, none⟩ (.int .i64 (z))).setCell ⟨r, 3, none⟩ (.int .i64 (s))) := (aldrew_set (aldrew_set (aldrew_set (aldrew_set HS.out.src lo.1 lo.2.1) lo.1 lo.2.1) lo.1 lo.2.1) lo.1 lo.2.1)
      have ZR := Lib.hid zr
      have ZD := Lib.hid zd
      clear zr zd lo
      go_wp2_with fail
      obtain ⟨⟨q0, q1, q2, q3⟩, _⟩ := rowN4 ZR.out
      exact bodyPost_ret (v := .agg #[.int .i64 u, .int .i64 y, .int .i64 z, .int .i64 s]) (by simp only [results, Tryd.results29]; simp [go_sem, q0, q1, q2, q3]) rfl ⟨⟨⟨u, y, z, s⟩, rfl⟩, ZD.out⟩
    · clear ka kd
      go_wp2_with fail
      refine (n_any sb (2) _ HS.out.src.1 (by omega)).mono ?_
      rintro e w5 ⟨⟨q, rfl, qa, qb, qc⟩, hD⟩
      replace HS := Lib.hid (HS.out.draw hD)
      clear hD
      have qd := qb (by omega)
      clear qb qc
      obtain ⟨⟨c0, c1, c2, c3⟩, f0, f1, f2, f3⟩ := rowN4 (show World.rowIs _ _ _ 4 (rowN [.int .i64 d, .int .i64 y, .int .i64 z, .int .i64 s]) from HS.out.row)
      have hgl := HS.out.row.lt
      have hrl := HS.out.res.lt
      have HSL : Hid (DaS 24 w sb r g [.int .i64 0, .int .i64 0, .int .i64 0, .int .i64 0] [.int .i64 d, .int .i64 (10000 + q), .int .i64 z, .int .i64 s] (w5.setCell ⟨g, 1, none⟩ (.int .i64 (10000 + q)))) := HS.out.set 1 (.int .i64 (10000 + q)) (by simp)
      replace HS := HSL
      clear HSL
      obtain ⟨⟨o0, o1, o2, o3⟩, z0, z1, z2, z3⟩ := rowN4 (show World.rowIs _ _ _ 4 (rowN [.int .i64 0, .int .i64 0, .int .i64 0, .int .i64 0]) from HS.out.res)
      have lo := HS.out.lo
      have zr := dm4put (show World.rowIs _ r 24 4 (rowN [.int .i64 0, .int .i64 0, .int .i64 0, .int .i64 0]) from HS.out.res) rfl (.int .i64 (d)) (.int .i64 (10000 + q)) (.int .i64 (z)) (.int .i64 (s))
      have zd : Drew sb w ((((((w5.setCell ⟨g, 1, none⟩ (.int .i64 (10000 + q)))).setCell ⟨r, 0, none⟩ (.int .i64 (d))).setCell ⟨r, 1, none⟩ (.int .i64 (10000 + q))).setCell ⟨r, 2, none⟩ (.int .i64 (z))).setCell ⟨r, 3, none⟩ (.int .i64 (s))) := (aldrew_set (aldrew_set (aldrew_set (aldrew_set HS.out.src lo.1 lo.2.1) lo.1 lo.2.1) lo.1 lo.2.1) lo.1 lo.2.1)
      have ZR := Lib.hid zr
      have ZD := Lib.hid zd
      clear zr zd lo
      go_wp2_with fail
      obtain ⟨⟨q0, q1, q2, q3⟩, _⟩ := rowN4 ZR.out
      exact bodyPost_ret (v := .agg #[.int .i64 d, .int .i64 (10000 + q), .int .i64 z, .int .i64 s]) (by simp only [results, Tryd.results29]; simp [go_sem, q0, q1, q2, q3]) rfl ⟨⟨⟨d, 10000 + q, z, s⟩, rfl⟩, ZD.out⟩
    · clear ka kd
      go_wp2_with fail
      refine (n_any sb (2) _ HS.out.src.1 (by omega)).mono ?_
      rintro e w6 ⟨⟨q, rfl, qa, qb, qc⟩, hD⟩
      replace HS := Lib.hid (HS.out.draw hD)
      clear hD
      have qd := qb (by omega)
      clear qb qc
      obtain ⟨⟨c0, c1, c2, c3⟩, f0, f1, f2, f3⟩ := rowN4 (show World.rowIs _ _ _ 4 (rowN [.int .i64 d, .int .i64 y, .int .i64 z, .int .i64 s]) from HS.out.row)
      have hgl := HS.out.row.lt
      have hrl := HS.out.res.lt
      have HSL : Hid (DaS 24 w sb r g [.int .i64 0, .int .i64 0, .int .i64 0, .int .i64 0] [.int .i64 d, .int .i64 y, .int .i64 (100000 + q), .int .i64 s] (w6.setCell ⟨g, 2, none⟩ (.int .i64 (100000 + q)))) := HS.out.set 2 (.int .i64 (100000 + q)) (by simp)
      replace HS := HSL
      clear HSL
      obtain ⟨⟨o0, o1, o2, o3⟩, z0, z1, z2, z3⟩ := rowN4 (show World.rowIs _ _ _ 4 (rowN [.int .i64 0, .int .i64 0, .int .i64 0, .int .i64 0]) from HS.out.res)
      have lo := HS.out.lo
      have zr := dm4put (show World.rowIs _ r 24 4 (rowN [.int .i64 0, .int .i64 0, .int .i64 0, .int .i64 0]) from HS.out.res) rfl (.int .i64 (d)) (.int .i64 (y)) (.int .i64 (100000 + q)) (.int .i64 (s))
      have zd : Drew sb w ((((((w6.setCell ⟨g, 2, none⟩ (.int .i64 (100000 + q)))).setCell ⟨r, 0, none⟩ (.int .i64 (d))).setCell ⟨r, 1, none⟩ (.int .i64 (y))).setCell ⟨r, 2, none⟩ (.int .i64 (100000 + q))).setCell ⟨r, 3, none⟩ (.int .i64 (s))) := (aldrew_set (aldrew_set (aldrew_set (aldrew_set HS.out.src lo.1 lo.2.1) lo.1 lo.2.1) lo.1 lo.2.1) lo.1 lo.2.1)
      have ZR := Lib.hid zr
      have ZD := Lib.hid zd
      clear zr zd lo
      go_wp2_with fail
      obtain ⟨⟨q0, q1, q2, q3⟩, _⟩ := rowN4 ZR.out
      exact bodyPost_ret (v := .agg #[.int .i64 d, .int .i64 y, .int .i64 (100000 + q), .int .i64 s]) (by simp only [results, Tryd.results29]; simp [go_sem, q0, q1, q2, q3]) rfl ⟨⟨⟨d, y, 100000 + q, s⟩, rfl⟩, ZD.out⟩
    · clear ka kd
      obtain ⟨⟨c0, c1, c2, c3⟩, f0, f1, f2, f3⟩ := rowN4 (show World.rowIs _ _ _ 4 (rowN [.int .i64 d, .int .i64 y, .int .i64 z, .int .i64 s]) from HS.out.row)
      have hgl := HS.out.row.lt
      have hrl := HS.out.res.lt
      go_wp2_with fail
      clear c0 f0 c1 f1 c2 f2 c3 f3 hgl hrl
      refine (sfull_any d ⟨by omega, by omega⟩ _).mono ?_
      rintro e w9 ⟨rfl, rfl⟩
      rw [← HF.out]
      obtain ⟨⟨c0, c1, c2, c3⟩, f0, f1, f2, f3⟩ := rowN4 (show World.rowIs _ _ _ 4 (rowN [.int .i64 d, .int .i64 y, .int .i64 z, .int .i64 s]) from HS.out.row)
      have hgl := HS.out.row.lt
      have hrl := HS.out.res.lt
      have HSL : Hid (DaS 24 w sb r g [.int .i64 0, .int .i64 0, .int .i64 0, .int .i64 0] [.int .i64 d, .int .i64 y, .int .i64 z, .int .i64 F] (w9.setCell ⟨g, 3, none⟩ (.int .i64 (F)))) := HS.out.set 3 (.int .i64 (F)) (by simp)
      replace HS := HSL
      clear HSL
      obtain ⟨⟨o0, o1, o2, o3⟩, z0, z1, z2, z3⟩ := rowN4 (show World.rowIs _ _ _ 4 (rowN [.int .i64 0, .int .i64 0, .int .i64 0, .int .i64 0]) from HS.out.res)
      have lo := HS.out.lo
      have zr := dm4put (show World.rowIs _ r 24 4 (rowN [.int .i64 0, .int .i64 0, .int .i64 0, .int .i64 0]) from HS.out.res) rfl (.int .i64 (d)) (.int .i64 (y)) (.int .i64 (z)) (.int .i64 (F))
      have zd : Drew sb w ((((((w9.setCell ⟨g, 3, none⟩ (.int .i64 (F)))).setCell ⟨r, 0, none⟩ (.int .i64 (d))).setCell ⟨r, 1, none⟩ (.int .i64 (y))).setCell ⟨r, 2, none⟩ (.int .i64 (z))).setCell ⟨r, 3, none⟩ (.int .i64 (F))) := (aldrew_set (aldrew_set (aldrew_set (aldrew_set HS.out.src lo.1 lo.2.1) lo.1 lo.2.1) lo.1 lo.2.1) lo.1 lo.2.1)
      have ZR := Lib.hid zr
      have ZD := Lib.hid zd
      clear zr zd lo
      go_wp2_with fail
      obtain ⟨⟨q0, q1, q2, q3⟩, _⟩ := rowN4 ZR.out
      exact bodyPost_ret (v := .agg #[.int .i64 d, .int .i64 y, .int .i64 z, .int .i64 F]) (by simp only [results, Tryd.results29]; simp [go_sem, q0, q1, q2, q3]) rfl ⟨⟨⟨d, y, z, F⟩, rfl⟩, ZD.out⟩
/-- What stands while a read of a meter is drawn. -/
structure DrS (sb : Nat) (w : World) (m : Mt.M) (p r g : Nat) (l : List Value) (V : World) : Prop where
  da : DaS 35 w sb r g [.int .i64 0, .int .i64 0] l V
  me : V.rowIs p 24 4 (rowN (mtL m))
  lo : w.heap.size ≤ p ∧ p < r
section
variable {sb : Nat} {w : World} {m : Mt.M} {p r g : Nat} {l : List Value} {V V' : World}
theorem DrS.draw (h : DrS sb w m p r g l V) (hd : Drew sb V V') : DrS sb w m p r g l V' := by
  have lo := h.lo
  have lo2 := h.da.lo
  exact ⟨h.da.draw hd, h.me.of_block (hd.2.2.2.2.2 p h.me.lt (by omega)), lo⟩
theorem DrS.set (h : DrS sb w m p r g l V) (i : Nat) (x : Value) (hi : i < l.length) : DrS sb w m p r g (l.set i x) (V.setCell ⟨g, i, none⟩ x) := by
  have lo := h.lo
  have lo2 := h.da.lo
  exact ⟨h.da.set i x hi, nrow_set h.me (by show p ≠ g; omega) _, lo⟩
theorem DrS.bel (h : DrS sb w m p r g l V) (hb : Below V.heap.size V V') : DrS sb w m p r g l V' := ⟨h.da.bel hb, nrow_below h.me hb, h.lo⟩
end
set_option maxRecDepth 100000 in
set_option maxHeartbeats 16000000 in
theorem dread_any (sb : Nat) (m : Mt.M) (w : World) (h : Src sb w) :
    Calls Tryd.prog 65 #[.pointer (some ⟨sb, 0, none⟩), mtV m] w fun e w' => (∃ x y : Int, e = .returned (.agg #[.int .i64 x, .int .i64 y])) ∧ Drew sb w w' := by
  obtain ⟨W, hW⟩ : ∃ W, W = (w.alloc (.cells #[.int .i64 m.d, .int .i64 m.u, .int .i64 m.day, .int .i64 m.s] 24)).alloc (.cells #[.int .i64 0, .int .i64 0] 35) := ⟨_, rfl⟩
  obtain ⟨p, hp⟩ : ∃ p, p = w.heap.size := ⟨_, rfl⟩
  obtain ⟨r, hr⟩ : ∃ r, r = w.heap.size + 1 := ⟨_, rfl⟩
  have HP : Hid (W.rowIs p 24 4 (rowN (mtL m))) := by show World.rowIs _ _ _ _ _; rw [hW, hp]; exact nrow_below (rowN_alloc w _ _) (nbel_alloc _ _)
  have HR : Hid (W.rowIs r 35 2 (rowN [.int .i64 0, .int .i64 0])) := by show World.rowIs _ _ _ _ _; rw [hW, hr]; exact rowN_alloc' (by simp) _ _
  have HD : Hid (Drew sb w W) := by show Drew _ _ _; rw [hW]; exact aldrew_bel (aldrew_bel (V := w) ⟨h, Chg.refl _ _⟩ (nbel_alloc _ _)) (nbel_alloc _ _)
  have HL : Hid (sb < w.heap.size ∧ p = w.heap.size ∧ r = w.heap.size + 1) := ⟨h.lt, hp, hr⟩
  have HW := Lib.hid hW
  have HPP := Lib.hid hp
  clear hW hr h hp
  go_enter Tryd.func65, Tryd.ntmps65
  go_wp2_with fail
  rw [← HW.out, ← HL.out.2.2, ← HPP.out]
  clear HW HPP
  refine (n_any sb 60 _ HD.out.1 (by omega)).mono ?_
  rintro e wa ⟨⟨v, rfl, va, vb, vc⟩, hD⟩
  have vd := vb (by omega)
  have HR2 := Lib.hid (HR.out.of_block (hD.2.2.2.2.2 r HR.out.lt (by have := HL.out; omega)))
  have HP2 := Lib.hid (HP.out.of_block (hD.2.2.2.2.2 p HP.out.lt (by have := HL.out; omega)))
  have HD2 := Lib.hid (aldrew_more HD.out hD)
  clear hD HR HD HP vb vc
  obtain ⟨q, hq⟩ : ∃ q, IntKind.i64.wrap (m.day + (1 + v)) = q := ⟨_, rfl⟩
  obtain ⟨V0, hV0⟩ : ∃ V, V = wa.alloc (.cells #[.int .i64 q, .int .i64 0] 35) := ⟨_, rfl⟩
  obtain ⟨g, hg⟩ : ∃ g, g = wa.heap.size := ⟨_, rfl⟩
  have HS : Hid (DrS sb w m p r g [.int .i64 q, .int .i64 0] V0) := by
    have lo := HL.out
    show DrS _ _ _ _ _ _ _ _
    rw [hV0, hg]
    exact ⟨⟨rowN_alloc wa [.int .i64 q, .int .i64 0] _, nrow_below HR2.out (nbel_alloc _ _), aldrew_bel HD2.out (nbel_alloc _ _), by omega, by omega, HR2.out.lt⟩, nrow_below HP2.out (nbel_alloc _ _), by omega, by omega⟩
  have HV0 := Lib.hid hV0
  have HG := Lib.hid hg
  obtain ⟨⟨m0, m1, m2, m3⟩, _⟩ := rowN4 HP2.out
  have hpl := HP2.out.lt
  by_cases k1 : m.d < 3
  · rw [hV0, hg] at HS
    clear HV0 HG hV0 hg HR2 HD2 HL HP2
    obtain ⟨⟨c0, c1⟩, f0, f1⟩ := rowN2 HS.out.da.row
    have hgl := HS.out.da.row.lt
    have hrl := HS.out.da.res.lt
    obtain ⟨⟨o0, o1⟩, z0, z1⟩ := rowN2 HS.out.da.res
    have lo := HS.out.da.lo
    have zr := al2put (show World.rowIs _ r 35 2 (rowN [.int .i64 0, .int .i64 0]) from HS.out.da.res) rfl (.int .i64 (q)) (.int .i64 (0))
    have zd : Drew sb w ((((wa.alloc (.cells #[.int .i64 q, .int .i64 0] 35))).setCell ⟨r, 0, none⟩ (.int .i64 (q))).setCell ⟨r, 1, none⟩ (.int .i64 (0))) := aldrew_set (aldrew_set HS.out.da.src lo.1 lo.2.1) lo.1 lo.2.1
    have ZR := Lib.hid zr
    have ZD := Lib.hid zd
    clear zr zd lo
    go_wp2_with fail
    obtain ⟨⟨q0, q1⟩, _⟩ := rowN2 ZR.out
    exact bodyPost_ret (v := .agg #[.int .i64 q, .int .i64 0]) (by simp only [results, Tryd.results65]; simp [go_sem, q0, q1]) rfl ⟨⟨_, _, rfl⟩, ZD.out⟩
  by_cases k2 : 7 < m.d
  · rw [hV0, hg] at HS
    clear HV0 HG hV0 hg HR2 HD2 HL HP2
    obtain ⟨⟨c0, c1⟩, f0, f1⟩ := rowN2 HS.out.da.row
    have hgl := HS.out.da.row.lt
    have hrl := HS.out.da.res.lt
    obtain ⟨⟨o0, o1⟩, z0, z1⟩ := rowN2 HS.out.da.res
    have lo := HS.out.da.lo
    have zr := al2put (show World.rowIs _ r 35 2 (rowN [.int .i64 0, .int .i64 0]) from HS.out.da.res) rfl (.int .i64 (q)) (.int .i64 (0))
    have zd : Drew sb w ((((wa.alloc (.cells #[.int .i64 q, .int .i64 0] 35))).setCell ⟨r, 0, none⟩ (.int .i64 (q))).setCell ⟨r, 1, none⟩ (.int .i64 (0))) := aldrew_set (aldrew_set HS.out.da.src lo.1 lo.2.1) lo.1 lo.2.1
    have ZR := Lib.hid zr
    have ZD := Lib.hid zd
    clear zr zd lo
    go_wp2_with fail
    obtain ⟨⟨q0, q1⟩, _⟩ := rowN2 ZR.out
    exact bodyPost_ret (v := .agg #[.int .i64 q, .int .i64 0]) (by simp only [results, Tryd.results65]; simp [go_sem, q0, q1]) rfl ⟨⟨_, _, rfl⟩, ZD.out⟩
  obtain ⟨F, hF⟩ : ∃ F, F = Mt.full m.d := ⟨_, rfl⟩
  have hF0 : 1 ≤ F ∧ F ≤ 10000000 := by rw [hF]; exact Mt.full_bd (by omega)
  have HF := Lib.hid hF
  clear hF hV0 hg HR2 HD2 HL HP2
  go_wp2_with fail
  rw [← HG.out, ← HV0.out]
  clear HG HV0 m0 m1 m2 m3 hpl
  refine (sfull_any m.d ⟨by omega, by omega⟩ _).mono ?_
  rintro e w0 ⟨rfl, rfl⟩
  rw [← HF.out]
  clear HF k1 k2
  have hFn : ¬ F = 0 := by omega
  have hFb : (F == 0) = false := by simp; omega
  go_wp2_with fail
  refine wp_region_held_drew (S := fun V => ∃ z0 z1 : Int, DrS sb w m p r g [.int .i64 z0, .int .i64 z1] V) (by kernel_rfl) ⟨_, _, HS.out.bel (Below.refl _ _).drew⟩ (fun hHeld => ?_)
  clear HS
  refine take_do (i := 0) (v := (.pointer (some ⟨p, 3, none⟩))) rfl (by kernel_rfl) (by kernel_rfl) (by kernel_rfl) (fun _ _ _ h => h) (by rfl) ?_ (by assumption) ?_
  · intro w hSw
    go_simp
  simp only [Act.put, List.setIfInBounds_toArray, List.set_cons_zero, List.set_cons_succ]
  refine take_do (i := 1) (v := (.int .i64 m.s)) rfl (by kernel_rfl) (by kernel_rfl) (by kernel_rfl) (fun _ _ _ h => h) (by rfl) ?_ (by assumption) ?_
  · intro w hSw
    obtain ⟨_, _, hSx⟩ := hSw
    obtain ⟨⟨m0, m1, m2, m3⟩, _⟩ := rowN4 hSx.me
    go_simp
  simp only [Act.put, List.setIfInBounds_toArray, List.set_cons_zero, List.set_cons_succ]
  refine take_do (i := 2) (v := (.int .i64 (1 + v))) rfl (by kernel_rfl) (by kernel_rfl) (by kernel_rfl) (fun _ _ _ h => h) (by rfl) ?_ (by assumption) ?_
  · intro w hSw
    go_simp
  simp only [Act.put, List.setIfInBounds_toArray, List.set_cons_zero, List.set_cons_succ]
  refine take_do (i := 3) (v := (.pointer (some ⟨p, 1, none⟩))) rfl (by kernel_rfl) (by kernel_rfl) (by kernel_rfl) (fun _ _ _ h => h) (by rfl) ?_ (by assumption) ?_
  · intro w hSw
    go_simp
  simp only [Act.put, List.setIfInBounds_toArray, List.set_cons_zero, List.set_cons_succ]
  refine take_do (i := 4) (v := (.int .i64 m.u)) rfl (by kernel_rfl) (by kernel_rfl) (by kernel_rfl) (fun _ _ _ h => h) (by rfl) ?_ (by assumption) ?_
  · intro w hSw
    obtain ⟨_, _, hSx⟩ := hSw
    obtain ⟨⟨m0, m1, m2, m3⟩, _⟩ := rowN4 hSx.me
    go_simp
  simp only [Act.put, List.setIfInBounds_toArray, List.set_cons_zero, List.set_cons_succ]
  refine take_do (i := 5) (v := (.pointer (some ⟨sb, 0, none⟩))) rfl (by kernel_rfl) (by kernel_rfl) (by kernel_rfl) (fun _ _ _ h => h) (by rfl) ?_ (by assumption) ?_
  · intro w hSw
    go_simp
  simp only [Act.put, List.setIfInBounds_toArray, List.set_cons_zero, List.set_cons_succ]
  refine take_do (i := 11) (v := (.int .i64 F)) rfl (by kernel_rfl) (by kernel_rfl) (by kernel_rfl) (fun _ _ _ h => h) (by rfl) ?_ (by assumption) ?_
  · intro w hSw
    go_simp
  simp only [Act.put, List.setIfInBounds_toArray, List.set_cons_zero, List.set_cons_succ]
  refine take_do (i := 13) (v := (.int .i64 F)) rfl (by kernel_rfl) (by kernel_rfl) (by kernel_rfl) (fun _ _ _ h => h) (by rfl) ?_ (by assumption) ?_
  · intro w hSw
    go_simp
  simp only [Act.put, List.setIfInBounds_toArray, List.set_cons_zero, List.set_cons_succ]
  refine take_call (i := 6) rfl (by kernel_rfl) (fun K2 hK => ?_)
  go_simp
  obtain ⟨_, _, hH⟩ := hHeld
  refine (n_any sb 9 _ hH.da.src.1 (by omega)).mono ?_
  rintro e w1 ⟨⟨t1, rfl, t1a, t1b, t1c⟩, hD⟩
  clear t1a t1b t1c
  obtain ⟨q1, hq1⟩ : ∃ z, IntKind.i64.wrap (m.u + t1) = z := ⟨_, rfl⟩
  obtain ⟨q2, hq2⟩ : ∃ z, IntKind.i64.wrap (q1 - 4) = z := ⟨_, rfl⟩
  obtain ⟨q3, hq3⟩ : ∃ z, IntKind.i64.wrap ((1 + v) * q2) = z := ⟨_, rfl⟩
  obtain ⟨q4, hq4⟩ : ∃ z, IntKind.i64.wrap (m.s + q3) = z := ⟨_, rfl⟩
  obtain ⟨q5, hq5⟩ : ∃ z, IntKind.i64.wrap (q4 + F) = z := ⟨_, rfl⟩
  obtain ⟨q6, hq6⟩ : ∃ z, q5.tmod F = z := ⟨_, rfl⟩
  go_wp2_with fail
  refine hK.out _ _ ⟨_, _, hH.draw hD⟩ (fun hHeld => ?_)
  clear hK hH hD
  refine take_do (i := 7) (v := (.int .i64 q1)) rfl (by kernel_rfl) (by kernel_rfl) (by kernel_rfl) (fun _ _ _ h => h) (by rfl) ?_ (by assumption) ?_
  · intro w hSw
    go_simp
  simp only [Act.put, List.setIfInBounds_toArray, List.set_cons_zero, List.set_cons_succ]
  refine take_do (i := 8) (v := (.int .i64 q2)) rfl (by kernel_rfl) (by kernel_rfl) (by kernel_rfl) (fun _ _ _ h => h) (by rfl) ?_ (by assumption) ?_
  · intro w hSw
    go_simp
  simp only [Act.put, List.setIfInBounds_toArray, List.set_cons_zero, List.set_cons_succ]
  refine take_do (i := 9) (v := (.int .i64 q3)) rfl (by kernel_rfl) (by kernel_rfl) (by kernel_rfl) (fun _ _ _ h => h) (by rfl) ?_ (by assumption) ?_
  · intro w hSw
    go_simp
  simp only [Act.put, List.setIfInBounds_toArray, List.set_cons_zero, List.set_cons_succ]
  refine take_do (i := 10) (v := (.int .i64 q4)) rfl (by kernel_rfl) (by kernel_rfl) (by kernel_rfl) (fun _ _ _ h => h) (by rfl) ?_ (by assumption) ?_
  · intro w hSw
    go_simp
  simp only [Act.put, List.setIfInBounds_toArray, List.set_cons_zero, List.set_cons_succ]
  refine take_do (i := 12) (v := (.int .i64 q5)) rfl (by kernel_rfl) (by kernel_rfl) (by kernel_rfl) (fun _ _ _ h => h) (by rfl) ?_ (by assumption) ?_
  · intro w hSw
    go_simp
  simp only [Act.put, List.setIfInBounds_toArray, List.set_cons_zero, List.set_cons_succ]
  refine take_do (i := 14) (v := (.int .i64 q6)) rfl (by kernel_rfl) (by kernel_rfl) (by kernel_rfl) (fun _ _ _ h => h) (by rfl) ?_ (by assumption) ?_
  · intro w hSw
    go_simp
  simp only [Act.put, List.setIfInBounds_toArray, List.set_cons_zero, List.set_cons_succ]
  refine take_do (i := 15) (v := (.pointer (some ⟨g, 1, none⟩))) rfl (by kernel_rfl) (by kernel_rfl) (by kernel_rfl) (fun _ _ _ h => h) (by rfl) ?_ (by assumption) ?_
  · intro w hSw
    go_simp
  simp only [Act.put, List.setIfInBounds_toArray, List.set_cons_zero, List.set_cons_succ]
  refine take_call (i := 16) rfl (by kernel_rfl) (fun K2 hK => ?_)
  obtain ⟨y0, y1, hH⟩ := hHeld
  obtain ⟨⟨c0, c1⟩, f0, f1⟩ := rowN2 hH.da.row
  have hgl := hH.da.row.lt
  go_simp
  have hN := hH.set 1 (.int .i64 (q6)) (by simp)
  clear c0 c1 f0 f1 hgl hH
  generalize w1.setCell ⟨g, 1, none⟩ (.int .i64 (q6)) = V2 at hN ⊢
  refine hK.out _ _ ⟨_, _, hN⟩ (fun hHeld2 => ?_)
  clear hK hHeld2
  refine wpAnyH_done (by kernel_rfl) ?_ _
  have HS : Hid (DrS sb w m p r g [.int .i64 y0, .int .i64 q6] V2) := hN
  clear hN
  clear hq1 hq2 hq3 hq4 hq5 hq6 hFn hFb hq
  go_wp2_with fail
  refine (one_any sb 4 _ HS.out.da.src.1 (by omega)).mono ?_
  rintro e w3 ⟨⟨bb, rfl⟩, hD⟩
  replace HS := Lib.hid (HS.out.draw hD)
  clear hD
  go_upto_if 45 with fail
  go_cut [] from 46 to 56 (fun wx => ∃ z0 z1 : Int, Hid (DrS sb w m p r g [.int .i64 z0, .int .i64 z1] wx))
  case first =>
    cases bb
    · go_wp2_with fail
      refine (one_any sb 4 _ HS.out.da.src.1 (by omega)).mono ?_
      rintro e w4 ⟨⟨bb, rfl⟩, hD⟩
      replace HS := Lib.hid (HS.out.draw hD)
      clear hD
      cases bb
      · go_wp2_with fail
        refine (one_any sb 30 _ HS.out.da.src.1 (by omega)).mono ?_
        rintro e w5 ⟨⟨bb, rfl⟩, hD⟩
        replace HS := Lib.hid (HS.out.draw hD)
        clear hD
        cases bb
        · go_wp2_with fail
          go_meet
          case rel => exact ⟨y0, q6, HS⟩
        · obtain ⟨⟨c0, c1⟩, f0, f1⟩ := rowN2 HS.out.da.row
          have hgl := HS.out.da.row.lt
          have hrl := HS.out.da.res.lt
          have HS2 : Hid (DrS sb w m p r g [.int .i64 y0, .int .i64 F] (w5.setCell ⟨g, 1, none⟩ (.int .i64 (F)))) := HS.out.set 1 (.int .i64 (F)) (by simp)
          go_wp2_with fail
          go_meet
          case rel => exact ⟨y0, F, HS2⟩
      · go_wp2_with fail
        refine (n_any sb F _ HS.out.da.src.1 (by omega)).mono ?_
        rintro e w6 ⟨⟨y4, rfl, y4a, y4b, y4c⟩, hD⟩
        replace HS := Lib.hid (HS.out.draw hD)
        clear hD
        clear y4a y4b y4c
        obtain ⟨⟨c0, c1⟩, f0, f1⟩ := rowN2 HS.out.da.row
        have hgl := HS.out.da.row.lt
        have hrl := HS.out.da.res.lt
        have HS2 : Hid (DrS sb w m p r g [.int .i64 y0, .int .i64 y4] (w6.setCell ⟨g, 1, none⟩ (.int .i64 (y4)))) := HS.out.set 1 (.int .i64 (y4)) (by simp)
        go_wp2_with fail
        go_meet
        case rel => exact ⟨y0, y4, HS2⟩
    · obtain ⟨⟨c0, c1⟩, f0, f1⟩ := rowN2 HS.out.da.row
      have hgl := HS.out.da.row.lt
      have hrl := HS.out.da.res.lt
      have HS2 : Hid (DrS sb w m p r g [.int .i64 y0, .int .i64 (-1)] (w3.setCell ⟨g, 1, none⟩ (.int .i64 (-1)))) := HS.out.set 1 (.int .i64 (-1)) (by simp)
      go_wp2_with fail
      go_meet
      case rel => exact ⟨y0, -1, HS2⟩
  case rest =>
    clear HS
    obtain ⟨a0, b0, HS⟩ := hcut
    obtain ⟨V1, hV1⟩ : ∃ w', w' = wc := ⟨_, rfl⟩
    rw [← hV1] at HS ⊢
    clear hV1
    go_wp2_with fail
    refine (one_any sb 30 _ HS.out.da.src.1 (by omega)).mono ?_
    rintro e w7 ⟨⟨bb, rfl⟩, hD⟩
    replace HS := Lib.hid (HS.out.draw hD)
    clear hD
    go_upto_if 58 with fail
    go_cut [] from 59 to 64 (fun wx => ∃ z0 z1 : Int, Hid (DrS sb w m p r g [.int .i64 z0, .int .i64 z1] wx))
    case first =>
      cases bb
      · go_wp2_with fail
        go_meet
        case rel => exact ⟨a0, b0, HS⟩
      · go_wp2_with fail
        refine region_L (fun V => DrS sb w m p r g [.int .i64 a0, .int .i64 b0] V) 6 (by kernel_rfl) (HS.out.bel (Below.refl _ _).drew) (fun hHeld => ?_)
        refine takeL_do (i := 0) (v := (.pointer (some ⟨p, 2, none⟩))) rfl (by kernel_rfl) (by kernel_rfl) (by kernel_rfl) (by kernel_rfl) (fun _ _ _ h => h) (by rfl) ?_ (by assumption) ?_
        · intro w hSw
          go_simp
        simp only [Act.put, List.setIfInBounds_toArray, List.set_cons_zero, List.set_cons_succ]
        refine takeL_do (i := 1) (v := (.int .i64 m.day)) rfl (by kernel_rfl) (by kernel_rfl) (by kernel_rfl) (by kernel_rfl) (fun _ _ _ h => h) (by rfl) ?_ (by assumption) ?_
        · intro w hSw
          obtain ⟨⟨m0, m1, m2, m3⟩, _⟩ := rowN4 hSw.me
          go_simp
        simp only [Act.put, List.setIfInBounds_toArray, List.set_cons_zero, List.set_cons_succ]
        refine takeL_do (i := 2) (v := (.pointer (some ⟨sb, 0, none⟩))) rfl (by kernel_rfl) (by kernel_rfl) (by kernel_rfl) (by kernel_rfl) (fun _ _ _ h => h) (by rfl) ?_ (by assumption) ?_
        · intro w hSw
          go_simp
        simp only [Act.put, List.setIfInBounds_toArray, List.set_cons_zero, List.set_cons_succ]
        refine takeL_call (i := 3) rfl (by kernel_rfl) (fun K2 hK => ?_)
        go_simp
        refine (n_any sb 2 _ hHeld.da.src.1 (by omega)).mono ?_
        rintro e w8 ⟨⟨t2, rfl, t2a, t2b, t2c⟩, hD⟩
        clear t2a t2b t2c
        obtain ⟨u1, hu1⟩ : ∃ z, IntKind.i64.wrap (m.day - t2) = z := ⟨_, rfl⟩
        go_wp2_with fail
        refine hK.out _ _ (hHeld.draw hD) (fun hHeld2 => ?_)
        clear hK hHeld hD
        have hHeld := hHeld2
        clear hHeld2
        refine takeL_do (i := 4) (v := (.int .i64 u1)) rfl (by kernel_rfl) (by kernel_rfl) (by kernel_rfl) (by kernel_rfl) (fun _ _ _ h => h) (by rfl) ?_ (by assumption) ?_
        · intro w hSw
          go_simp
        simp only [Act.put, List.setIfInBounds_toArray, List.set_cons_zero, List.set_cons_succ]
        refine takeL_do (i := 5) (v := (.pointer (some ⟨g, 0, none⟩))) rfl (by kernel_rfl) (by kernel_rfl) (by kernel_rfl) (by kernel_rfl) (fun _ _ _ h => h) (by rfl) ?_ (by assumption) ?_
        · intro w hSw
          go_simp
        simp only [Act.put, List.setIfInBounds_toArray, List.set_cons_zero, List.set_cons_succ]
        refine takeL_last rfl (by kernel_rfl) (by kernel_rfl) (fun K2 hK => ?_)
        replace HS := Lib.hid hHeld
        clear hHeld
        obtain ⟨⟨c0, c1⟩, f0, f1⟩ := rowN2 HS.out.da.row
        have hgl := HS.out.da.row.lt
        have hrl := HS.out.da.res.lt
        go_wp2_with fail
        refine hK.out _ _ ?_
        clear hK
        have HSL : Hid (DrS sb w m p r g [.int .i64 u1, .int .i64 b0] (w8.setCell ⟨g, 0, none⟩ (.int .i64 (u1)))) := HS.out.set 0 (.int .i64 (u1)) (by simp)
        generalize w8.setCell ⟨g, 0, none⟩ (.int .i64 (u1)) = V9 at HSL ⊢
        replace HS := HSL
        clear HSL
        clear c0 c1 f0 f1 hgl hrl
        go_wp2_with fail
        go_meet
        case rel => exact ⟨u1, b0, HS⟩
    case rest =>
      clear HS
      obtain ⟨a1, b1, HS⟩ := hcut
      obtain ⟨V1, hV1⟩ : ∃ w', w' = wc := ⟨_, rfl⟩
      rw [← hV1] at HS ⊢
      clear hV1
      go_wp2_with fail
      refine (one_any sb 40 _ HS.out.da.src.1 (by omega)).mono ?_
      rintro e w10 ⟨⟨bb, rfl⟩, hD⟩
      replace HS := Lib.hid (HS.out.draw hD)
      clear hD
      go_upto_if 66 with fail
      go_cut [] from 67 to 70 (fun wx => ∃ z0 z1 : Int, Hid (DrS sb w m p r g [.int .i64 z0, .int .i64 z1] wx))
      case first =>
        cases bb
        · go_wp2_with fail
          go_meet
          case rel => exact ⟨a1, b1, HS⟩
        · go_wp2_with fail
          refine (n_any sb 2 _ HS.out.da.src.1 (by omega)).mono ?_
          rintro e w11 ⟨⟨e1, rfl, e1a, e1b, e1c⟩, hD⟩
          replace HS := Lib.hid (HS.out.draw hD)
          clear hD
          have e1d := e1b (by omega)
          clear e1b e1c
          obtain ⟨⟨c0, c1⟩, f0, f1⟩ := rowN2 HS.out.da.row
          have hgl := HS.out.da.row.lt
          have hrl := HS.out.da.res.lt
          have HS2 : Hid (DrS sb w m p r g [.int .i64 (100000 + e1), .int .i64 b1] (w11.setCell ⟨g, 0, none⟩ (.int .i64 (100000 + e1)))) := HS.out.set 0 (.int .i64 (100000 + e1)) (by simp)
          go_wp2_with fail
          go_meet
          case rel => exact ⟨100000 + e1, b1, HS2⟩
      case rest =>
        clear HS
        obtain ⟨a2, b2, HS⟩ := hcut
        obtain ⟨V1, hV1⟩ : ∃ w', w' = wc := ⟨_, rfl⟩
        rw [← hV1] at HS ⊢
        clear hV1
        obtain ⟨⟨c0, c1⟩, f0, f1⟩ := rowN2 HS.out.da.row
        have hgl := HS.out.da.row.lt
        have hrl := HS.out.da.res.lt
        obtain ⟨⟨o0, o1⟩, z0, z1⟩ := rowN2 HS.out.da.res
        have lo := HS.out.da.lo
        have zr := al2put (show World.rowIs _ r 35 2 (rowN [.int .i64 0, .int .i64 0]) from HS.out.da.res) rfl (.int .i64 (a2)) (.int .i64 (b2))
        have zd : Drew sb w (((V1).setCell ⟨r, 0, none⟩ (.int .i64 (a2))).setCell ⟨r, 1, none⟩ (.int .i64 (b2))) := aldrew_set (aldrew_set HS.out.da.src lo.1 lo.2.1) lo.1 lo.2.1
        have ZR := Lib.hid zr
        have ZD := Lib.hid zd
        clear zr zd lo
        go_wp2_with fail
        obtain ⟨⟨q0, q1⟩, _⟩ := rowN2 ZR.out
        exact bodyPost_ret (v := .agg #[.int .i64 a2, .int .i64 b2]) (by simp only [results, Tryd.results65]; simp [go_sem, q0, q1]) rfl ⟨⟨_, _, rfl⟩, ZD.out⟩
end Go.Proofs.YtmejmpdljckfgaaDoor
namespace Go.Proofs.YtmejmpdljckfgaaDoor
open Go Go.RowKit Go.Deep

theorem dqinfo : (Tryd.prog.info? 35).map (fun i => (i.zero, i.size, i.bytes)) = some (some (.agg #[.int .i64 0, .int .i64 0]), 2, 16) := by kernel_rfl
/-- What stands while reads are drawn. -/
structure DqS (w : World) (sb p : Nat) (m : Mt.M) (v : Value) (zs : List (Int × Int)) (W : World) : Prop where
  me : W.rowIs p 24 4 (rowN (mtL m))
  ls : W.ownsRow w.heap.size 35 2 v zs.length (nvs zs)
  src : Drew sb w W
  lo : sb < w.heap.size ∧ w.heap.size ≤ p
theorem dq_ne {W : World} {B n m s : Nat} {T S : TypeId} {v : Value} {ns : List Value} {x : Nat} {F : Nat → Value} (h : W.ownsRow B T s v n ns) (hr : W.rowIs x S m F) (hT : T ≠ S) {g : Nat} (hg : v.ownBlock = some g) : g ≠ x := by
  rintro rfl
  rcases h.2 with ⟨h1, _⟩ | ⟨g', cap, cur, e1, e2, e3, _⟩
  · rw [h1] at hg; simp [Value.ownBlock] at hg
  · rw [e1] at hg
    simp [Value.ownBlock] at hg
    subst hg
    obtain ⟨c2, q2, _⟩ := hr
    rw [e3] at q2
    simp at q2
    exact hT q2.2
theorem dq_keep {W W' : World} {B n s : Nat} {T : TypeId} {v : Value} {ns : List Value} (h : W.ownsRow B T s v n ns) (hb : ∀ g, v.ownBlock = some g → g < W.heap.size → W'.heap[g]? = W.heap[g]?) : W'.ownsRow B T s v n ns := hown_keep h hb
section
variable {w : World} {sb p : Nat} {m m' : Mt.M} {v v' : Value} {zs : List (Int × Int)} {W W' : World}
theorem DqS.draw (h : DqS w sb p m v zs W) (hd : Drew sb W W') : DqS w sb p m v zs W' := by
  have lo := h.lo
  exact ⟨h.me.of_block (hd.2.2.2.2.2 p h.me.lt (by omega)), dq_keep h.ls (fun g hg hl => hd.2.2.2.2.2 g hl (by have := (h.ls.lt g hg).1; omega)), aldrew_more h.src hd, lo⟩
theorem DqS.bel (h : DqS w sb p m v zs W) (hb : Below W.heap.size W W') : DqS w sb p m v zs W' :=
  ⟨nrow_below h.me hb, dq_keep h.ls (fun g _ hl => hb.block g hl), aldrew_bel h.src hb, h.lo⟩
theorem DqS.put (h : DqS w sb p m v zs W) (m' : Mt.M) : DqS w sb p m' v zs ((((W.setCell ⟨p, 0, none⟩ (.int .i64 m'.d)).setCell ⟨p, 1, none⟩ (.int .i64 m'.u)).setCell ⟨p, 2, none⟩ (.int .i64 m'.day)).setCell ⟨p, 3, none⟩ (.int .i64 m'.s)) := by
  have lo := h.lo
  have hk : ∀ k, k ≠ p → ((((W.setCell ⟨p, 0, none⟩ (.int .i64 m'.d)).setCell ⟨p, 1, none⟩ (.int .i64 m'.u)).setCell ⟨p, 2, none⟩ (.int .i64 m'.day)).setCell ⟨p, 3, none⟩ (.int .i64 m'.s)).heap[k]? = W.heap[k]? := fun k hk => by
    rw [Below.heap_setCell _ ⟨p, 3, none⟩ _ _ hk, Below.heap_setCell _ ⟨p, 2, none⟩ _ _ hk, Below.heap_setCell _ ⟨p, 1, none⟩ _ _ hk, Below.heap_setCell _ ⟨p, 0, none⟩ _ _ hk]
  exact ⟨dm4put h.me rfl _ _ _ _, dq_keep h.ls (fun g hg _ => hk g (dq_ne h.ls h.me (by decide) hg)), aldrew_set (aldrew_set (aldrew_set (aldrew_set h.src lo.1 lo.2) lo.1 lo.2) lo.1 lo.2) lo.1 lo.2, lo⟩
theorem DqS.push {x : Int × Int} {o : Obj} (h : DqS w sb p m v zs W) (hg : (W.alloc o).grownBy W' v.ownBlock) (hown : W'.ownsRow w.heap.size 35 2 v' (zs ++ [x]).length (nvs (zs ++ [x]))) : DqS w sb p m v' (zs ++ [x]) W' := by
  have hz := h.src.2.2.2.2.1
  have lo := h.lo
  have hrow : ∀ k, v.ownBlock = some k → w.heap.size ≤ k := fun k e => (h.ls.lt k e).1
  have hk : ∀ k, k < w.heap.size → W'.heap[k]? = W.heap[k]? := fun k hk => by
    rw [hg.block k (by simp; omega) (fun e => by have := hrow k e.symm; omega)]
    exact blk_alloc_lt _ _ _ (by omega)
  have hm : W'.heap[p]? = W.heap[p]? := by
    have hl := h.me.lt
    rw [hg.block p (by simp; omega) (fun e => dq_ne h.ls h.me (by decide) e.symm rfl)]
    exact blk_alloc_lt _ _ _ (by omega)
  refine ⟨h.me.of_block hm, hown, ⟨alsrc_keep h.src.1 (fun k hk2 => hk k (by omega)), ?_⟩, lo⟩
  exact ⟨hg.os.trans h.src.2.1, hg.tape.trans h.src.2.2.1, hg.output.trans h.src.2.2.2.1, by have := hg.size; simp at this; omega, fun k hk1 hk2 => (hk k hk1).trans (h.src.2.2.2.2.2 k hk1 hk2)⟩
end
set_option maxRecDepth 100000 in
set_option maxHeartbeats 16000000 in
theorem dreads_any (sb : Nat) (m : Mt.M) (w : World) (h : Src sb w) :
    Calls Tryd.prog 30 #[.pointer (some ⟨sb, 0, none⟩), mtV m] w fun e w' => (∃ a n c F, e = .returned (.slice a n c) ∧ CyO 35 w.heap.size (n * 2) a c F w' ∧ n ≤ 61) ∧ Drew sb w w' := by
  obtain ⟨i0, hi0, hz0, hz1, hz2⟩ := info_parts dqinfo
  obtain ⟨p, hp⟩ : ∃ p, p = w.heap.size := ⟨_, rfl⟩
  obtain ⟨W1, hW1⟩ : ∃ W, W = w.alloc (.cells #[.int .i64 m.d, .int .i64 m.u, .int .i64 m.day, .int .i64 m.s] 24) := ⟨_, rfl⟩
  obtain ⟨W, hW⟩ : ∃ W, W = W1.alloc (.cells #[] 35) := ⟨_, rfl⟩
  obtain ⟨q, hq⟩ : ∃ q, q = p + 1 := ⟨_, rfl⟩
  have HS : Hid (DqS w sb p m (.slice (some ⟨q, 0, none⟩) 0 0) [] W) := by
    have e1 : W1.heap.size = q := by rw [hW1, hq, hp]; simp
    show DqS _ _ _ _ _ _ _
    rw [hW]
    refine ⟨nrow_below (by rw [hW1, hp]; exact rowN_alloc w (mtL m) _) (nbel_alloc _ _), ?_, aldrew_bel (by rw [hW1]; exact aldrew_bel (V := w) ⟨h, Chg.refl _ _⟩ (nbel_alloc _ _)) (nbel_alloc _ _), h.lt, by omega⟩
    have h0 := World.ownsRow_made (e := 35) (size := 2) W1 #[] 0 (Nat.le_refl _) (Nat.zero_le _) rfl
    rw [e1] at h0
    obtain ⟨k1, k2⟩ := h0
    refine ⟨k1, ?_⟩
    rcases k2 with k2 | ⟨g, cap, cur, e2, e3, e4⟩
    · exact Or.inl k2
    · exact Or.inr ⟨g, cap, cur, e2, by omega, e4⟩
  rw [hW1] at hW
  have HW := Lib.hid hW
  have HPP := Lib.hid hp
  have HQQ := Lib.hid hq
  obtain ⟨a, len, cap, at_, mix, size, hZ, h1, h2, h3, h4, h5, h6⟩ := HS.out.src.1
  obtain ⟨s0, s1, s2, s3, _⟩ := hZ
  rw [hW] at s0 s1 s2 s3
  clear h1 h2 h3 h6 hW hW1 hp hq h
  go_enter Tryd.func30, Tryd.ntmps30
  go_wp2_with fail
  rw [← HW.out, ← HPP.out, ← HQQ.out]
  clear HW HPP HQQ s0 s1 s2 s3
  refine (n_any sb (4 + size) _ HS.out.src.1 (by omega)).mono ?_
  rintro e w1 ⟨⟨v, rfl, va, vb, vc⟩, hD⟩
  have vd : v ≤ 16 := by
    have := vb (by omega)
    omega
  replace HS := Lib.hid (HS.out.draw hD)
  clear hD vb vc h4 h5
  go_wp2_with fail
  refine (one_any sb 40 _ HS.out.src.1 (by omega)).mono ?_
  rintro e w2 ⟨⟨bb, rfl⟩, hD⟩
  replace HS := Lib.hid (HS.out.draw hD)
  clear hD
  go_upto_if 18 with fail
  go_cut [6] from 19 to 21 (fun nv wx => ∃ N : Nat, nv = .int .i64 N ∧ N ≤ 61 ∧ Hid (DqS w sb p m (.slice (some ⟨q, 0, none⟩) 0 0) [] wx))
  case first =>
    cases bb
    · obtain ⟨N, rfl⟩ : ∃ N : Nat, v = (N : Int) := ⟨v.toNat, by omega⟩
      go_wp2_with fail
      go_meet
      case rel => exact ⟨N, rfl, by omega, HS⟩
    · go_wp2_with fail
      refine (n_any sb 3 _ HS.out.src.1 (by omega)).mono ?_
      rintro e w3 ⟨⟨u, rfl, ua, ub, uc⟩, hD⟩
      have ud := ub (by omega)
      replace HS := Lib.hid (HS.out.draw hD)
      obtain ⟨t, rfl⟩ : ∃ t : Nat, u = (t : Int) := ⟨u.toNat, by omega⟩
      clear hD ub uc
      go_wp2_with fail
      go_meet
      case rel => exact ⟨59 + t, by first | rfl | simp, by omega, HS⟩
  case rest =>
    clear HS va vd
    obtain ⟨N, rfl, hN, HS⟩ := hcut
    obtain ⟨V1, hV1⟩ : ∃ w', w' = wc := ⟨_, rfl⟩
    rw [← hV1] at HS ⊢
    clear hV1
    go_wp2_with fail
    go_loopw [5, 6] (fun lv nv wr => ∃ (i : Nat) (m : Mt.M) (zs : List (Int × Int)), i ≤ N ∧ nv = .int .i64 ((N : Int) - (i : Int)) ∧ Hid (DqS w sb p m lv zs wr) ∧ Hid (zs.length ≤ i)) (fun _ nv _ => (intOf nv).toNat)
    case atStart => exact ⟨0, m, [], Nat.zero_le _, by simp, HS, Nat.le_refl _⟩
    case round =>
      obtain ⟨i, m, zs, hi, rfl, hS, hz⟩ := hrel
      clear HS
      by_cases hlt : i < N
      · have hltz : (0 : Int) < (N : Int) - (i : Int) := by omega
        obtain ⟨la, lc, rfl, _⟩ := own_ns hS.out.ls
        obtain ⟨⟨m0, m1, m2, m3⟩, _⟩ := rowN4 hS.out.me
        go_wp2_with fail
        clear m0 m1 m2 m3
        refine (dread_any sb m _ hS.out.src.1).mono ?_
        rintro e w4 ⟨⟨x, y, rfl⟩, hD⟩
        have HS := Lib.hid (hS.out.draw hD)
        clear hD hS
        obtain ⟨W5, hW5⟩ : ∃ W5, W5 = w4.alloc (.cells #[.int .i64 x, .int .i64 y] 35) := ⟨_, rfl⟩
        obtain ⟨gr, hgr⟩ : ∃ gr, gr = w4.heap.size := ⟨_, rfl⟩
        have HR : Hid (W5.rowIs gr 35 2 (rowN [.int .i64 x, .int .i64 y])) := by show World.rowIs _ _ _ _ _; rw [hW5, hgr]; exact rowN_alloc w4 [.int .i64 x, .int .i64 y] _
        have HS5 : Hid (DqS w sb p m (.slice la zs.length lc) zs W5) := by show DqS _ _ _ _ _ _ _; rw [hW5]; exact HS.out.bel (nbel_alloc _ _)
        have HGR : Hid (p < gr ∧ w.heap.size ≤ gr) := by have h1 := HS.out.me.lt; have h2 := HS.out.lo; show _ ∧ _; rw [hgr]; omega
        obtain ⟨⟨m0, m1, m2, m3⟩, _⟩ := rowN4 HS.out.me
        have hpl := HS.out.me.lt
        have HW5 := Lib.hid hW5
        have HGG := Lib.hid hgr
        clear hW5 hgr HS
        go_wp2_with fail
        rw [← HW5.out, ← HGG.out]
        clear HW5 HGG m0 m1 m2 m3 hpl
        refine (specRead_any m x y _).mono ?_
        rintro e w6 ⟨hE, hb⟩
        have HS := Lib.hid (HS5.out.bel hb)
        have HR6 := Lib.hid (nrow_below HR.out hb)
        clear hb HS5 HR
        obtain ⟨X, aN, nN, cN, cd, rfl⟩ : ∃ (X : Mt.M) (aN : Option Addr) (nN cN : Nat) (cd : Int), e = .returned (muV X aN nN cN cd) := by
          rcases hE with ⟨_, e6⟩ | ⟨_, a6, c6, e6, _⟩
          · exact ⟨_, _, _, _, _, e6⟩
          · exact ⟨_, _, _, _, _, e6⟩
        clear hE
        obtain ⟨W7, hW7⟩ : ∃ W7, W7 = w6.alloc (.cells #[.int .i64 X.d, .int .i64 X.u, .int .i64 X.day, .int .i64 X.s, .slice aN nN cN, .int .i64 cd] 30) := ⟨_, rfl⟩
        obtain ⟨gx, hgx⟩ : ∃ gx, gx = w6.heap.size := ⟨_, rfl⟩
        have HX : Hid (W7.rowIs gx 30 6 (rowN (muL X aN nN cN cd))) := by show World.rowIs _ _ _ _ _; rw [hW7, hgx]; exact rowN_alloc w6 (muL X aN nN cN cd) _
        have HS7 : Hid (DqS w sb p m (.slice la zs.length lc) zs W7) := by show DqS _ _ _ _ _ _ _; rw [hW7]; exact HS.out.bel (nbel_alloc _ _)
        have HR7 : Hid (W7.rowIs gr 35 2 (rowN [.int .i64 x, .int .i64 y])) := by show World.rowIs _ _ _ _ _; rw [hW7]; exact nrow_below HR6.out (nbel_alloc _ _)
        have HW7 := Lib.hid hW7
        have HGX := Lib.hid hgx
        clear hW7 hgx HS HR6
        go_upto_if 34 with fail
        rw [← HW7.out, ← HGX.out]
        clear HW7 HGX
        go_cut [] from 34 to 39 (fun wx => ∃ m' : Mt.M, Hid (DqS w sb p m' (.slice la zs.length lc) zs wx) ∧ Hid (wx.rowIs gr 35 2 (rowN [.int .i64 x, .int .i64 y])))
        case first =>
          by_cases hc : cd = 0
          · have hcz : (cd == 0) = true := by simp [hc]
            clear hc
            obtain ⟨⟨y0, y1, y2, y3, y4, y5⟩, _⟩ := rowN6 HX.out
            obtain ⟨⟨m0, m1, m2, m3⟩, f0, f1, f2, f3⟩ := rowN4 HS7.out.me
            have hpl := HS7.out.me.lt
            have hxl := HX.out.lt
            have HS8 := Lib.hid (HS7.out.put X)
            have HR8 : Hid (((((W7.setCell ⟨p, 0, none⟩ (.int .i64 X.d)).setCell ⟨p, 1, none⟩ (.int .i64 X.u)).setCell ⟨p, 2, none⟩ (.int .i64 X.day)).setCell ⟨p, 3, none⟩ (.int .i64 X.s)).rowIs gr 35 2 (rowN [.int .i64 x, .int .i64 y])) := by
              have hg := HGR.out
              exact nrow_set (nrow_set (nrow_set (nrow_set HR7.out (by show gr ≠ p; omega) _) (by show gr ≠ p; omega) _) (by show gr ≠ p; omega) _) (by show gr ≠ p; omega) _
            go_wp2_with fail
            go_meet
            case rel => exact ⟨X, HS8, HR8⟩
          · have hcz : (cd == 0) = false := by simp [hc]
            clear hc
            go_wp2_with fail
            refine (one_any sb 4 _ HS7.out.src.1 (by omega)).mono ?_
            rintro e w8 ⟨⟨b2, rfl⟩, hD⟩
            have HS8 := Lib.hid (HS7.out.draw hD)
            have HR8 : Hid (w8.rowIs gr 35 2 (rowN [.int .i64 x, .int .i64 y])) := HR7.out.of_block (hD.2.2.2.2.2 gr HR7.out.lt (by have h1 := HGR.out; have h2 := HS7.out.lo; omega))
            clear hD
            cases b2
            · go_wp2_with fail
              exact ⟨⟨i + 1, m, zs, by omega, by first | rfl | (simp; omega), HS8, by have := hz.out; show _ ≤ _; omega⟩, by simp [intOf]; omega⟩
            · go_wp2_with fail
              go_meet
              case rel => exact ⟨m, HS8, HR8⟩
        case rest =>
          clear HX HS7 HR7
          obtain ⟨m9, HS9, HR9⟩ := hcut
          obtain ⟨V9, hV9⟩ : ∃ w', w' = wc := ⟨_, rfl⟩
          rw [← hV9] at HS9 HR9 ⊢
          clear hV9
          obtain ⟨⟨r0, r1⟩, _⟩ := rowN2 HR9.out
          have hrl := HR9.out.lt
          have HLN : Hid (zs.length ≤ 61) := by have := hz.out; show zs.length ≤ 61; omega
          have HO : Hid ((V9.alloc (.cells #[.int .i64 x, .int .i64 y] 35)).ownsRow w.heap.size 35 2 (.slice la zs.length lc) zs.length (nvs zs)) := HS9.out.ls.alloc _
          have HM := Lib.hid (one_in V9 35 x y)
          have HSZ : Hid (w.heap.size ≤ V9.heap.size) := HS9.out.src.2.2.2.2.1
          go_wp2_with (at_builtin; refine wpList_append_ns (l := zs) (m := [(x, y)]) rfl _ _ 25 rfl 35 i0 (.agg #[.int .i64 0, .int .i64 0]) 16 Tryd.underlying25 hi0 hz0 hz1 hz2 rfl w.heap.size _ rfl HO.out (some ⟨V9.heap.size, 0, none⟩) 1 rfl HM.out (by have := HLN.out; unfold maxLen; simp; omega) (by have := HLN.out; simp; omega) (by have := HSZ.out; simp; omega) ?_)
          intro v' y9 hown hgrow
          have hown2 : y9.ownsRow w.heap.size 35 2 v' (zs ++ [(x, y)]).length (nvs (zs ++ [(x, y)])) := by simpa using hown
          have HP := Lib.hid (HS9.out.push hgrow hown2)
          clear hown hown2 hgrow HS9 HR9 HO HM r0 r1 hrl
          go_wp2_with fail
          go_roundw
          case rel => exact ⟨i + 1, m9, zs ++ [(x, y)], by omega, by first | rfl | (simp; omega), HP, by have := hz.out; show _ ≤ _; simp; omega⟩
          case measure => simp [intOf]; omega
      · obtain rfl : i = N := by omega
        have hnz : ¬ (0 : Int) < (i : Int) - (i : Int) := by omega
        have HE := Lib.hid hS.out.src
        obtain ⟨qa, qc, rfl, hq⟩ := cyo_own hS.out.ls
        have HQ := Lib.hid hq
        have HLN : Hid (zs.length ≤ 61) := by have := hz.out; show zs.length ≤ 61; omega
        clear hS hq
        go_wp2_with fail
        go_ret
        exact ⟨⟨_, _, _, rfl, ⟨_, HQ.out⟩, HLN.out⟩, HE.out⟩
end Go.Proofs.YtmejmpdljckfgaaDoor
namespace Go.Proofs.YtmejmpdljckfgaaDoor
open Go Go.RowKit Go.Deep

theorem dm4bel {B g : Nat} {w W : World} (h : Below B w W) (hg : B ≤ g) (a b c d : Value) : Below B w ((((W.setCell ⟨g, 0, none⟩ a).setCell ⟨g, 1, none⟩ b).setCell ⟨g, 2, none⟩ c).setCell ⟨g, 3, none⟩ d) :=
  (((h.setCell (p := ⟨g, 0, none⟩) hg _).setCell (p := ⟨g, 1, none⟩) hg _).setCell (p := ⟨g, 2, none⟩) hg _).setCell (p := ⟨g, 3, none⟩) hg _
theorem dm4blk {g k : Nat} {W : World} (hk : k ≠ g) (a b c d : Value) : ((((W.setCell ⟨g, 0, none⟩ a).setCell ⟨g, 1, none⟩ b).setCell ⟨g, 2, none⟩ c).setCell ⟨g, 3, none⟩ d).heap[k]? = W.heap[k]? := by
  rw [Below.heap_setCell _ ⟨g, 3, none⟩ _ _ hk, Below.heap_setCell _ ⟨g, 2, none⟩ _ _ hk, Below.heap_setCell _ ⟨g, 1, none⟩ _ _ hk, Below.heap_setCell _ ⟨g, 0, none⟩ _ _ hk]
set_option maxRecDepth 100000 in
set_option maxHeartbeats 16000000 in
theorem drawMRL_any (a : Option Addr) (len cap : Nat) (w : World) (h : Bytes a len w) (hl : len ≤ 4194304) :
    Calls Tryd.prog 6 #[.slice a len cap] w fun e w' => (∃ (X : Mt.M) (b : Option Addr) (n c : Nat) (F : Nat → Int), e = .returned (.tuple #[mtV X, .slice b n c]) ∧ CyO 35 w.heap.size (n * 2) b c F w' ∧ n ≤ 61) ∧ Below w.heap.size w w' := by
  have H := Lib.hid h
  clear h
  obtain ⟨W, hW⟩ : ∃ W, W = w.alloc (.cells #[.int .i64 0, .int .i64 0, .int .i64 0, .int .i64 0] 24) := ⟨_, rfl⟩
  have HR : Hid (W.rowIs w.heap.size 24 4 (rowN [.int .i64 0, .int .i64 0, .int .i64 0, .int .i64 0])) := by show World.rowIs _ _ _ _ _; rw [hW]; exact rowN_alloc w [.int .i64 0, .int .i64 0, .int .i64 0, .int .i64 0] _
  have HB : Hid (Below w.heap.size w W) := by show Below _ _ _; rw [hW]; exact nbel_alloc _ _
  have HW := Lib.hid hW
  clear hW
  go_enter Tryd.func6, Tryd.ntmps6
  go_wp2_with fail
  rw [← HW.out]
  clear HW
  refine (source_any a len cap _ (H.out.below HB.out) hl).mono ?_
  rintro e w1 ⟨rfl, hs, hb⟩
  obtain ⟨sb, hsb⟩ : ∃ s, s = W.heap.size := ⟨_, rfl⟩
  rw [← hsb] at hs ⊢
  have HS := Lib.hid hs
  have HR1 := Lib.hid (nrow_below HR.out hb)
  have HB1 : Hid (Below w.heap.size w w1) := HB.out.trans (hb.mono HB.out.size)
  have HSB : Hid (w.heap.size < sb) := by show _ < _; rw [hsb]; exact HR.out.lt
  clear hs hb HR HB hsb H
  go_wp2_with fail
  refine (dmeter_any sb _ HS.out).mono ?_
  rintro e w2 ⟨⟨X, rfl⟩, hD⟩
  have HS2 := Lib.hid hD.1
  have HR2 := Lib.hid (HR1.out.of_block (hD.2.2.2.2.2 _ HR1.out.lt (by have := HSB.out; omega)))
  have HB2 : Hid (Below w.heap.size w w2) := HB1.out.trans (hD.2.below (Nat.le_of_lt HSB.out) HB1.out.size)
  clear hD HS HR1 HB1
  obtain ⟨V, hV⟩ : ∃ V, V = w2.alloc (.cells #[.int .i64 X.d, .int .i64 X.u, .int .i64 X.day, .int .i64 X.s] 24) := ⟨_, rfl⟩
  obtain ⟨g, hg⟩ : ∃ g, g = w2.heap.size := ⟨_, rfl⟩
  have HQ : Hid (V.rowIs g 24 4 (rowN (mtL X)) ∧ V.rowIs w.heap.size 24 4 (rowN [.int .i64 0, .int .i64 0, .int .i64 0, .int .i64 0]) ∧ Src sb V ∧ Below w.heap.size w V ∧ sb < g) := by
    show _ ∧ _
    rw [hV, hg]
    exact ⟨rowN_alloc w2 (mtL X) _, nrow_below HR2.out (nbel_alloc _ _), HS2.out.below (nbel_alloc _ _), HB2.out.alloc HB2.out.size _, HS2.out.lt⟩
  have HV := Lib.hid hV
  have HG := Lib.hid hg
  clear hV hg HR2 HS2 HB2
  go_wp2_with fail
  rw [← HG.out, ← HV.out]
  clear HG HV
  refine wp_region_held_drew (S := fun Y => Y.rowIs g 24 4 (rowN (mtL X))) (by kernel_rfl) (HQ.out.1.of_block rfl) (fun hHeld => ?_)
  obtain ⟨Z, hZ⟩ : ∃ Z, Z = V.drew := ⟨_, rfl⟩
  have HZQ : Hid (Z.rowIs w.heap.size 24 4 (rowN [.int .i64 0, .int .i64 0, .int .i64 0, .int .i64 0]) ∧ Src sb Z ∧ Below w.heap.size w Z ∧ w.heap.size < sb ∧ sb < g) := by
    show _ ∧ _
    rw [hZ]
    exact ⟨HQ.out.2.1.of_block rfl, HQ.out.2.2.1.below (Below.refl _ _).drew, HQ.out.2.2.2.1.trans ((Below.refl _ _).drew.mono HQ.out.2.2.2.1.size), HSB.out, HQ.out.2.2.2.2⟩
  rw [← hZ] at hHeld ⊢
  clear hZ HQ HSB
  refine take_do (i := 0) (v := (mtV X)) rfl (by kernel_rfl) (by kernel_rfl) (by kernel_rfl) (fun _ _ _ h => h) (by rfl) ?_ (by assumption) ?_
  · intro w hSw
    obtain ⟨⟨c0, c1, c2, c3⟩, _⟩ := rowN4 hSw
    go_simp
  simp only [Act.put, List.setIfInBounds_toArray, List.set_cons_zero, List.set_cons_succ]
  refine take_do (i := 1) (v := (.pointer (some ⟨sb, 0, none⟩))) rfl (by kernel_rfl) (by kernel_rfl) (by kernel_rfl) (fun _ _ _ h => h) (by rfl) ?_ (by assumption) ?_
  · intro w hSw
    go_simp
  simp only [Act.put, List.setIfInBounds_toArray, List.set_cons_zero, List.set_cons_succ]
  refine take_do (i := 2) (v := (mtV X)) rfl (by kernel_rfl) (by kernel_rfl) (by kernel_rfl) (fun _ _ _ h => h) (by rfl) ?_ (by assumption) ?_
  · intro w hSw
    obtain ⟨⟨c0, c1, c2, c3⟩, _⟩ := rowN4 hSw
    go_simp
  simp only [Act.put, List.setIfInBounds_toArray, List.set_cons_zero, List.set_cons_succ]
  refine take_call (i := 3) rfl (by kernel_rfl) (fun K2 hK => ?_)
  go_simp
  refine (dreads_any sb X _ HZQ.out.2.1).mono ?_
  rintro e w3 ⟨⟨b, n, c, F, rfl, hcy, hn4⟩, hD⟩
  have HC3 : Hid (CyO 35 w.heap.size (n * 2) b c F w3) := hcy.low HZQ.out.2.2.1.size
  have HCN : Hid (b ≠ some ⟨w.heap.size, 0, none⟩) := hcy.ne (HZQ.out.1.of_block (hD.2.2.2.2.2 _ HZQ.out.1.lt (by have := HZQ.out.2.2.2.1; omega))) (by decide)
  have HN4 := Lib.hid hn4
  clear hcy hn4
  have HR3 := Lib.hid (HZQ.out.1.of_block (hD.2.2.2.2.2 _ HZQ.out.1.lt (by have := HZQ.out.2.2.2.1; omega)))
  have HB3 : Hid (Below w.heap.size w w3) := HZQ.out.2.2.1.trans (hD.2.below (Nat.le_of_lt HZQ.out.2.2.2.1) HZQ.out.2.2.1.size)
  have HL3 : Hid (w.heap.size ≠ g) := by have := HZQ.out.2.2.2; show _ ≠ _; omega
  go_wp2_with fail
  refine hK.out _ _ (hHeld.of_block (hD.2.2.2.2.2 _ hHeld.lt (by have := HZQ.out.2.2.2.2; omega))) (fun hHeld2 => ?_)
  clear hK hHeld hD HZQ
  have hHeld := hHeld2
  clear hHeld2
  obtain ⟨⟨o0, o1, o2, o3⟩, z0, z1, z2, z3⟩ := rowN4 HR3.out
  have hol := HR3.out.lt
  have zr := dm4put HR3.out rfl (.int .i64 X.d) (.int .i64 X.u) (.int .i64 X.day) (.int .i64 X.s)
  have zb := dm4bel (g := w.heap.size) HB3.out (Nat.le_refl _) (.int .i64 X.d) (.int .i64 X.u) (.int .i64 X.day) (.int .i64 X.s)
  have zh := hHeld.of_block (dm4blk (W := w3) (k := g) (g := w.heap.size) (fun e => HL3.out e.symm) (.int .i64 X.d) (.int .i64 X.u) (.int .i64 X.day) (.int .i64 X.s))
  have zc : CyO 35 w.heap.size (n * 2) b c F ((((w3.setCell ⟨w.heap.size, 0, none⟩ (.int .i64 X.d)).setCell ⟨w.heap.size, 1, none⟩ (.int .i64 X.u)).setCell ⟨w.heap.size, 2, none⟩ (.int .i64 X.day)).setCell ⟨w.heap.size, 3, none⟩ (.int .i64 X.s)) := HC3.out.keep (fun k e _ _ => dm4blk (fun e2 => HCN.out (by rw [e, e2])) _ _ _ _)
  refine take_call (i := 4) rfl (by kernel_rfl) (fun K2 hK => ?_)
  go_simp
  clear o0 o1 o2 o3 z0 z1 z2 z3
  generalize ((((w3).setCell ⟨w.heap.size, 0, none⟩ (.int .i64 X.d)).setCell ⟨w.heap.size, 1, none⟩ (.int .i64 X.u)).setCell ⟨w.heap.size, 2, none⟩ (.int .i64 X.day)).setCell ⟨w.heap.size, 3, none⟩ (.int .i64 X.s) = Y at zr zb zh zc ⊢
  refine hK.out _ _ zh (fun hHeld2 => ?_)
  clear hK hHeld hHeld2
  have ZR := Lib.hid zr
  have ZB := Lib.hid zb
  have ZC := Lib.hid zc
  refine take_do (i := 5) (v := (.slice b n c)) rfl (by kernel_rfl) (by kernel_rfl) (by kernel_rfl) (fun _ _ _ h => h) (by rfl) ?_ zh ?_
  · intro w hSw
    go_simp
  simp only [Act.put, List.setIfInBounds_toArray, List.set_cons_zero, List.set_cons_succ]
  refine wpAnyH_done (by kernel_rfl) ?_ _
  clear zr zb zh zc
  go_wp2_with fail
  obtain ⟨⟨p0, p1, p2, p3⟩, _⟩ := rowN4 ZR.out
  exact bodyPost_ret (v := .tuple #[mtV X, .slice b n c]) (by simp only [results, Tryd.results6]; simp [go_sem, p0, p1, p2, p3]) rfl ⟨⟨X, b, n, c, F, rfl, ZC.out, HN4.out⟩, ZB.out⟩
end Go.Proofs.YtmejmpdljckfgaaDoor
namespace Go.Proofs.YtmejmpdljckfgaaDoor
namespace Mt
/-- The water of so many uses. -/
def sw (U : Nat → Int) : Nat → Int
  | 0 => 0
  | i + 1 => sw U i + U (i * 4 + 2)
theorem sum_succ (U : Nat → Int) (a b : Int) (i : Nat) : sum U a b (i + 1) = sum U a b i + part U a b i := rfl
theorem part_all {U : Nat → Int} {a b : Int} {i : Nat} (h : UseOk U i) (ha : a ≤ U (i * 4)) (hb : U (i * 4 + 1) ≤ b) : part U a b i = U (i * 4 + 2) := by
  have h1 := h.1.1.2
  unfold part
  rw [show near (U (i * 4)) (U (i * 4 + 1)) b = U (i * 4 + 1) by unfold near; omega, show near (U (i * 4)) (U (i * 4 + 1)) a = U (i * 4) by unfold near; omega]
  exact Int.mul_ediv_cancel _ (by omega)
theorem part_lo {U : Nat → Int} {a b : Int} {i : Nat} (h : UseOk U i) (hab : a ≤ b) (hb : b ≤ U (i * 4)) : part U a b i = 0 := by
  have h1 := h.1.1.2
  unfold part
  rw [show near (U (i * 4)) (U (i * 4 + 1)) b = U (i * 4) by unfold near; omega, show near (U (i * 4)) (U (i * 4 + 1)) a = U (i * 4) by unfold near; omega, Int.sub_self, Int.mul_zero, Int.zero_ediv]
theorem part_hi {U : Nat → Int} {a b : Int} {i : Nat} (h : UseOk U i) (hab : a ≤ b) (ha : U (i * 4 + 1) ≤ a) : part U a b i = 0 := by
  have h1 := h.1.1.2
  unfold part
  rw [show near (U (i * 4)) (U (i * 4 + 1)) b = U (i * 4 + 1) by unfold near; omega, show near (U (i * 4)) (U (i * 4 + 1)) a = U (i * 4 + 1) by unfold near; omega, Int.sub_self, Int.mul_zero, Int.zero_ediv]
theorem two_parts {w x y N : Int} (hN : 0 < N) (h : x + y = w * N) : w - 1 ≤ x / N + y / N ∧ x / N + y / N ≤ w := by
  have e1 := Int.mul_ediv_add_emod x N
  have e2 := Int.mul_ediv_add_emod y N
  have r1 := Int.emod_nonneg x (show N ≠ 0 by omega)
  have r2 := Int.emod_lt_of_pos x hN
  have r3 := Int.emod_nonneg y (show N ≠ 0 by omega)
  have r4 := Int.emod_lt_of_pos y hN
  obtain ⟨p, hp⟩ : ∃ p, p = x / N := ⟨_, rfl⟩
  obtain ⟨q, hq⟩ : ∃ q, q = y / N := ⟨_, rfl⟩
  rw [← hp] at e1 ⊢
  rw [← hq] at e2 ⊢
  have e3 : N * (w - (p + q)) = x % N + y % N := by
    rw [Int.mul_sub, Int.mul_add, Int.mul_comm N w]
    omega
  have k1 : w - (p + q) < 2 := Int.lt_of_mul_lt_mul_left (show N * (w - (p + q)) < N * 2 by omega) (by omega)
  have k2 : -1 < w - (p + q) := Int.lt_of_mul_lt_mul_left (show N * (-1) < N * (w - (p + q)) by omega) (by omega)
  omega
theorem part_two {U : Nat → Int} {a b c : Int} {i : Nat} (h : UseOk U i) (ha : a ≤ U (i * 4)) (hb : U (i * 4 + 1) ≤ b) (h1 : U (i * 4) ≤ c) (h2 : c ≤ U (i * 4 + 1)) :
    U (i * 4 + 2) - 1 ≤ part U a c i + part U c b i ∧ part U a c i + part U c b i ≤ U (i * 4 + 2) := by
  have h3 := h.1.1.2
  unfold part
  rw [show near (U (i * 4)) (U (i * 4 + 1)) b = U (i * 4 + 1) by unfold near; omega, show near (U (i * 4)) (U (i * 4 + 1)) a = U (i * 4) by unfold near; omega, show near (U (i * 4)) (U (i * 4 + 1)) c = c by unfold near; omega]
  refine two_parts (by omega) ?_
  rw [← Int.mul_add]
  congr 1
  omega
/-- Uses that follow each other. -/
def Ch (U D : Nat → Int) (n : Nat) : Prop := ∀ i, i < n → UseOk U i ∧ U (i * 4) = D i ∧ U (i * 4 + 1) = D (i + 1)
theorem Ch.lt {U D : Nat → Int} {n i : Nat} (h : Ch U D n) (hi : i < n) : D i < D (i + 1) := by
  obtain ⟨h1, h2, h3⟩ := h i hi
  rw [← h2, ← h3]
  exact h1.1.1.2
theorem Ch.mono {U D : Nat → Int} {n i : Nat} (h : Ch U D n) : ∀ d, i + d ≤ n → D i ≤ D (i + d)
  | 0, _ => Int.le_refl _
  | d + 1, hd => by
    have h1 := h.mono (i := i) d (by omega)
    have h2 := h.lt (show i + d < n by omega)
    have h3 : D (i + (d + 1)) = D (i + d + 1) := rfl
    omega
theorem Ch.le {U D : Nat → Int} {n i j : Nat} (h : Ch U D n) (hij : i ≤ j) (hj : j ≤ n) : D i ≤ D j := by
  have := h.mono (i := i) (j - i) (by omega)
  rwa [show i + (j - i) = j by omega] at this
theorem Ch.whole {U D : Nat → Int} {n : Nat} (h : Ch U D n) : ∀ i, i ≤ n → sum U (D 0) (D n) i = sw U i := by
  intro i
  induction i with
  | zero => intro _; rfl
  | succ i ih =>
    intro hi
    obtain ⟨h1, h2, h3⟩ := h i (by omega)
    rw [sum_succ, ih (by omega), part_all h1 (by rw [h2]; exact h.le (by omega) (by omega)) (by rw [h3]; exact h.le (by omega) (by omega))]
    rfl
theorem Ch.cut {U D : Nat → Int} {n : Nat} {c : Int} (h : Ch U D n) (h0 : D 0 ≤ c) (hn : c ≤ D n) : ∀ i, i ≤ n →
    (D i ≤ c → sum U (D 0) c i = sw U i ∧ sum U c (D n) i = 0) ∧ (sw U i - 1 ≤ sum U (D 0) c i + sum U c (D n) i ∧ sum U (D 0) c i + sum U c (D n) i ≤ sw U i) := by
  intro i
  induction i with
  | zero => intro _; exact ⟨fun _ => ⟨rfl, rfl⟩, by show (0 : Int) - 1 ≤ 0 + 0; omega, by show (0 : Int) + 0 ≤ 0; omega⟩
  | succ i ih =>
    intro hi
    obtain ⟨h1, h2, h3⟩ := h i (by omega)
    obtain ⟨i1, i2⟩ := ih (by omega)
    have l0 := h.le (i := 0) (j := i) (by omega) (by omega)
    have l1 := h.lt (show i < n by omega)
    have l2 := h.le (i := i + 1) (j := n) (by omega) (by omega)
    have es : sw U (i + 1) = sw U i + U (i * 4 + 2) := rfl
    rw [sum_succ, sum_succ, es]
    by_cases c1 : D (i + 1) ≤ c
    · obtain ⟨j1, j2⟩ := i1 (by omega)
      have p1 := part_all (a := D 0) (b := c) h1 (by omega) (by omega)
      have p2 := part_hi (a := c) (b := D n) h1 hn (by omega)
      rw [p1, p2, j1, j2]
      exact ⟨fun _ => ⟨rfl, by omega⟩, by omega, by omega⟩
    · by_cases c2 : D i ≤ c
      · obtain ⟨j1, j2⟩ := i1 c2
        have p := part_two (a := D 0) (b := D n) (c := c) h1 (by omega) (by omega) (by omega) (by omega)
        rw [j1, j2]
        exact ⟨fun k => absurd k c1, by omega, by omega⟩
      · have p1 := part_lo (a := D 0) (b := c) h1 h0 (by omega)
        have p2 := part_all (a := c) (b := D n) h1 (by omega) (by omega)
        rw [p1, p2]
        exact ⟨fun k => absurd k c1, by omega, by omega⟩
theorem Ch.sw_bd {U D : Nat → Int} {n : Nat} (h : Ch U D n) : ∀ i, i ≤ n → 0 ≤ sw U i ∧ sw U i ≤ i * 1000000000 := by
  intro i
  induction i with
  | zero => intro _; exact ⟨Int.le_refl _, by show (0 : Int) ≤ ((0 : Nat) : Int) * 1000000000; omega⟩
  | succ i ih =>
    intro hi
    obtain ⟨h1, _⟩ := h i (by omega)
    have h2 := ih (by omega)
    have h3 := h1.2
    have es : sw U (i + 1) = sw U i + U (i * 4 + 2) := rfl
    rw [es]
    omega
theorem day_next (m : M) (R : Nat → Int) (i : Nat) : (mAt m R (i + 1)).day = R (i * 2) := rfl
theorem run_ch {m : M} {R : Nat → Int} {n : Nat} (h : RunOk m R n) : Ch (use m R) (fun i => (mAt m R i).day) n := by
  intro i hi
  have ho := h.2 i hi
  have hr := mAt_right h.1 i (fun j hj => h.2 j (by omega))
  have hw := water_bd ho
  obtain ⟨_, ⟨g1, g2⟩, _⟩ := ho
  have hd := hr.2.1.1
  refine ⟨⟨⟨⟨?_, ?_⟩, ?_⟩, ?_⟩, use0 m R i, by rw [use1]; rfl⟩
  · rw [use0]; exact hd
  · rw [use0, use1]; exact g1
  · rw [use1]; exact g2
  · rw [use2]; exact hw
end Mt
end Go.Proofs.YtmejmpdljckfgaaDoor
namespace Go.Proofs.YtmejmpdljckfgaaDoor
open Go Go.RowKit Go.Deep

/-- So many numbers as values. -/
def ivs (U : Nat → Int) (N : Nat) : List Value := (List.range N).map (fun j => Value.int .i64 (U j))
theorem ivs_len (U : Nat → Int) (N : Nat) : (ivs U N).length = N := by simp [ivs]
theorem ivs_get (U : Nat → Int) {N j : Nat} (h : j < N) : (ivs U N)[j]? = some (.int .i64 (U j)) := by simp [ivs, h]
theorem ivs_one (U : Nat → Int) (N : Nat) : ∀ u ∈ ivs U N, u.oneCell' = true := by
  intro u hu
  simp only [ivs, List.mem_map] at hu
  obtain ⟨j, _, rfl⟩ := hu
  rfl
theorem cyo_ivs {T : TypeId} {B n s : Nat} {v : Value} {U : Nat → Int} {w : World} (h : w.ownsRow B T s v n (ivs U (n * s))) : ∃ a c, v = .slice a n c ∧ CyO T B (n * s) a c U w := by
  rcases h.2 with ⟨rfl, h2⟩ | ⟨g, cap, cur, rfl, e2, e3, e4, e5, e6, e7⟩
  · exact ⟨none, 0, by rw [h2], Or.inl ⟨rfl, by rw [h2]; simp, rfl⟩⟩
  · have hF : ∀ j, j < n * s → cur[j]?.getD undef = .int .i64 (U j) := by
      intro j hj
      have h1 : (cur.toList.take (n * s))[j]? = (ivs U (n * s))[j]? := by rw [e7]
      rw [List.getElem?_take, if_pos hj, Array.getElem?_toList, ivs_get U hj] at h1
      rw [h1]; rfl
    have hr : w.rowIs g T (cap * s) (fun i => cur[i]?.getD undef) := ⟨cur, e3, e6, fun i hi => by
      show cur[i]? = some (cur[i]?.getD undef)
      rw [Array.getElem?_eq_getElem (by omega)]
      rfl⟩
    exact ⟨_, cap, rfl, Or.inr ⟨g, rfl, e2, cap * s, _, Nat.mul_le_mul_right s e4, hr, hF⟩⟩
section
variable {P : Program}
theorem run_append_us (s : Nat) (hp : 0 < s) (w : World) (t ty T : TypeId) (i : TypeInfo) (z : Value) (bytes : Nat) (ht : P.underlying t = some (.slice T)) (hi : P.info? T = some i) (hz : i.zero = some z) (hs : i.size = s) (hb : i.bytes = bytes) (hc : z.cells.size = s)
    (B : Nat) (v : Value) (hown : w.ownsRow B T s v 0 []) (a : Option Addr) (n k : Nat) (U : Nat → Int) (hm : IsIn a (n * s) U w)
    (h63 : n ≤ maxLen) (hby : n * bytes ≤ 140737488355328) (hB : B ≤ w.heap.size) :
    ∃ v' w', (Builtin.append_ #[t, t] ty #[v, .slice a n k]).run P w = .ok v' w' ∧ w'.ownsRow B T s v' n (ivs U (n * s)) ∧ w.grownBy w' v.ownBlock := by
  by_cases h0 : n = 0
  · subst h0
    refine ⟨v, w, ?_, by simpa [ivs] using hown, ⟨rfl, rfl, rfl, Nat.le_refl _, fun _ _ _ => rfl⟩⟩
    rcases hown.2 with ⟨rfl, _⟩ | ⟨g, cap, cur, rfl, _, _, hnc, _⟩
    · cases a <;> simp [Builtin.append_, run_underlying ht, sizeOf, typeInfo, hi, Builtin.lenOf, Builtin.firstCells, loadCells, loadCellsFrom]
    · cases a <;> simp [Builtin.append_, run_underlying ht, sizeOf, typeInfo, hi, Builtin.lenOf, Builtin.firstCells, hnc, storeCells, loadCells, loadCellsFrom]
  · have hn : 0 < n * s := Nat.mul_pos (by omega) hp
    obtain ⟨b, o, rfl, hcell⟩ := hm.pos hn
    obtain ⟨v', w', hr, h1, h2, _⟩ := run_append_own (P := P) w B t ty T i z s bytes ht hi hz hs hb hc hp v 0 [] hown ⟨b, o, none⟩ n k (ivs U (n * s)) (ivs_len _ _) (fun j u hj => by
      have hjn : j < n * s := by
        have := (List.getElem?_eq_some_iff.1 hj).1
        rwa [ivs_len] at this
      rw [ivs_get U hjn] at hj
      cases hj
      rw [Addr.add_lit]
      exact hcell j hjn) (ivs_one U _) (by omega) (by rw [Nat.zero_add]; exact hby) hB
    exact ⟨v', w', hr, by simpa using h1, h2⟩
theorem wp_append_us (s' : Nat) (hp : 0 < s') {o : Oper} {a : Act} {w : World} {K : Act → World → Prop} {Q : Exit → Act → World → Prop} (s x : Operand) (t : TypeId)
    (ho : o.op = .call { callee := .builtin .append, args := #[s, x], argTypes := #[t, t] })
    (T : TypeId) (i : TypeInfo) (z : Value) (bytes : Nat) (ht : P.underlying t = some (.slice T)) (hi : P.info? T = some i) (hz : i.zero = some z) (hs : i.size = s') (hb : i.bytes = bytes) (hc : z.cells.size = s')
    (B : Nat) (v : Value) (hv : a.eval s = v) (hown : w.ownsRow B T s' v 0 []) (ad : Option Addr) (n k : Nat) (U : Nat → Int) (hx : a.eval x = .slice ad n k) (hm : IsIn ad (n * s') U w)
    (h63 : n ≤ maxLen) (hby : n * bytes ≤ 140737488355328) (hB : B ≤ w.heap.size)
    (hK : ∀ v' w', w'.ownsRow B T s' v' n (ivs U (n * s')) → w.grownBy w' v.ownBlock → K (a.put o.dst v') w') : o.wp P a w K Q := by
  obtain ⟨v', w', hr, h2, h3⟩ := run_append_us (P := P) s' hp w t o.type T i z bytes ht hi hz hs hb hc B v hown ad n k U hm h63 hby hB
  unfold Oper.wp execOp
  simp only [ho, resolve, invoke, builtin, Sem.run_bind, Sem.run_pure, Result.andThen_ok, List.map_toArray, List.map_cons, List.map_nil, hv, hx, hr]
  exact hK v' w' h2 h3
end
end Go.Proofs.YtmejmpdljckfgaaDoor
