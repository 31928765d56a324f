/-
  The program's reading: what was used, the meter behind it.
-/
import Derived.Test.YtmejmpdljckfgaaDoorMtR1
import Derived.Test.YtmejmpdljckfgaaDoorRegL
namespace Go.Proofs.YtmejmpdljckfgaaDoor
open Go.RowKit Go.Deep

/-- The value of a use. -/
abbrev useV (a b c d : Int) : Value := .agg #[.int .i64 a, .int .i64 b, .int .i64 c, .int .i64 d]
abbrev useL (a b c d : Int) : List Value := [.int .i64 a, .int .i64 b, .int .i64 c, .int .i64 d]
/-- Four cells laid one behind the other. -/
theorem mput4 {T : TypeId} {g : Nat} {W : World} {l : List Value} (h : W.rowIs g T 4 (rowN l)) (hl : l.length = 4) (a b c d : Value) :
    ((((W.setCell ⟨g, 0, none⟩ a).setCell ⟨g, 1, none⟩ b).setCell ⟨g, 2, none⟩ c).setCell ⟨g, 3, none⟩ d).rowIs g T 4 (rowN [a, b, c, d]) := by
  match l, hl with
  | [x0, x1, x2, x3], _ => exact rowN_put (rowN_put (rowN_put (rowN_put h 0 a (by simp)) 1 b (by simp)) 2 c (by simp)) 3 d (by simp)
theorem mbel4 {B g : Nat} {w W : World} (h : Below B w W) (hg : B ≤ g) (a b c d : Value) :
    Below B w ((((W.setCell ⟨g, 0, none⟩ a).setCell ⟨g, 1, none⟩ b).setCell ⟨g, 2, none⟩ c).setCell ⟨g, 3, none⟩ d) :=
  (((h.setCell (p := ⟨g, 0, none⟩) hg _).setCell (p := ⟨g, 1, none⟩) hg _).setCell (p := ⟨g, 2, none⟩) hg _).setCell (p := ⟨g, 3, none⟩) hg _
set_option maxRecDepth 100000 in
set_option maxHeartbeats 4000000 in
theorem useOne_any (m : Mt.M) (rd rs : Int) (h : Mt.ReadOk m rd rs) (w : World) :
    Calls Tryd.prog 88 #[rgV m rd rs] w fun e w' => e = .returned (useV m.day rd (Mt.water m rd rs) (Mt.kind m rd rs)) ∧ Below w.heap.size w w' := by
  obtain ⟨W, hW⟩ : ∃ W, W = ((w.alloc (.cells #[.int .i64 m.d, .int .i64 m.u, .int .i64 m.day, .int .i64 m.s, .int .i64 rd, .int .i64 rs] 121)).alloc (.cells #[.int .i64 0, .int .i64 0, .int .i64 0, .int .i64 0] 33)).alloc (.cells #[.int .i64 m.day, .int .i64 rd, .int .i64 0, .int .i64 0] 33) := ⟨_, rfl⟩
  have HR : Hid (RgS w m rd rs W) := by show RgS _ _ _ _ _; rw [hW]; exact ((RgS.new w m rd rs).below (nbel_alloc _ _)).below (nbel_alloc _ _)
  have HO : Hid (W.rowIs (w.heap.size + 1) 33 4 (rowN (useL 0 0 0 0))) := by show W.rowIs _ _ _ _; rw [hW]; exact nrow_below (rowN_alloc' (by simp) _ _) (nbel_alloc _ _)
  have HU : Hid (W.rowIs (w.heap.size + 2) 33 4 (rowN (useL m.day rd 0 0))) := by show W.rowIs _ _ _ _; rw [hW]; exact rowN_alloc' (by simp) _ _
  have HW := Lib.hid hW
  have H := Lib.hid h
  clear hW h
  by_cases c : rs = -1
  · have HWK : Hid (Mt.water m rd rs = Mt.usual m rd ∧ Mt.kind m rd rs = 4) := by subst c; exact ⟨Mt.water_guess, Mt.kind_guess⟩
    have hz : (rs == -1) = true := by simp [c]
    clear c
    go_enter Tryd.func88, Tryd.ntmps88
    go_wp2_with fail
    rw [← HW.out]
    clear HW
    refine (usualW_any m rd rs H.out _).mono ?_
    rintro e w1 ⟨rfl, hb⟩
    have HB1 := Lib.hid (HR.out.below hb).old
    have HO1 := Lib.hid (nrow_below HO.out hb)
    have HU1 := Lib.hid (nrow_below HU.out hb)
    obtain ⟨P, hP⟩ : ∃ P, P = Mt.usual m rd := ⟨_, rfl⟩
    rw [← hP]
    have HP := Lib.hid hP
    clear hb HR HO HU hP
    have HO2 := Lib.hid (nrow_set (nrow_set HO1.out (p := ⟨w.heap.size + 1 + 1, 2, none⟩) (by simp) (.int .i64 P)) (p := ⟨w.heap.size + 1 + 1, 3, none⟩) (by simp) (.int .i64 4))
    obtain ⟨⟨u0, u1, u2, u3⟩, y0, y1, y2, y3⟩ := rowN4 HU1.out
    obtain ⟨⟨o0, o1, o2, o3⟩, z0, z1, z2, z3⟩ := rowN4 HO1.out
    have hul := HU1.out.lt
    go_wp2_with fail
    have zr := mput4 HO2.out rfl (.int .i64 m.day) (.int .i64 rd) (.int .i64 P) (.int .i64 4)
    have zb := mbel4 (g := w.heap.size + 1) ((HB1.out.setCell (p := ⟨w.heap.size + 1 + 1, 2, none⟩) (by show w.heap.size ≤ w.heap.size + 1 + 1; omega) (.int .i64 P)).setCell (p := ⟨w.heap.size + 1 + 1, 3, none⟩) (by show w.heap.size ≤ w.heap.size + 1 + 1; omega) (.int .i64 4)) (by omega) (.int .i64 m.day) (.int .i64 rd) (.int .i64 P) (.int .i64 4)
    generalize ((((((w1.setCell ⟨w.heap.size + 1 + 1, 2, none⟩ (.int .i64 P)).setCell ⟨w.heap.size + 1 + 1, 3, none⟩ (.int .i64 4)).setCell ⟨w.heap.size + 1, 0, none⟩ (.int .i64 m.day)).setCell ⟨w.heap.size + 1, 1, none⟩ (.int .i64 rd)).setCell ⟨w.heap.size + 1, 2, none⟩ (.int .i64 P)).setCell ⟨w.heap.size + 1, 3, none⟩ (.int .i64 4)) = Z at zr zb ⊢
    obtain ⟨⟨c0, c1, c2, c3⟩, _⟩ := rowN4 zr
    exact bodyPost_ret (v := useV m.day rd P 4) (by simp only [results, Tryd.results88]; simp [go_sem, c0, c1, c2, c3]) rfl ⟨by rw [HWK.out.1, HWK.out.2, ← HP.out], zb⟩
  · have HWK : Hid (Mt.water m rd rs = Mt.turn m.d m.s rs) := Mt.water_read c
    have HC := Lib.hid c
    have hz : (rs == -1) = false := by simpa using c
    clear c
    go_enter Tryd.func88, Tryd.ntmps88
    go_wp2_with fail
    rw [← HW.out]
    clear HW
    refine (implTurn_any _ _ _ _).mono ?_
    rintro e w1 ⟨rfl, hb⟩
    have HR1 := Lib.hid (HR.out.below hb)
    have HO1 := Lib.hid (nrow_below HO.out hb)
    have HU1 := Lib.hid (nrow_below HU.out hb)
    obtain ⟨T, hT⟩ : ∃ T, T = Mt.turn m.d m.s rs := ⟨_, rfl⟩
    rw [← hT]
    have HT := Lib.hid hT
    clear hb HR HO HU hT
    obtain ⟨W2, hW2⟩ : ∃ W2, W2 = w1.setCell ⟨w.heap.size + 1 + 1, 2, none⟩ (.int .i64 T) := ⟨_, rfl⟩
    have HR2 : Hid (RgS w m rd rs W2) := by show RgS _ _ _ _ _; rw [hW2]; exact ⟨nrow_set HR1.out.r (by show w.heap.size ≠ w.heap.size + 1 + 1; omega) _, HR1.out.old.setCell (p := ⟨w.heap.size + 1 + 1, 2, none⟩) (by show w.heap.size ≤ w.heap.size + 1 + 1; omega) _⟩
    have HO2 : Hid (W2.rowIs (w.heap.size + 1) 33 4 (rowN (useL 0 0 0 0))) := by show W2.rowIs _ _ _ _; rw [hW2]; exact nrow_set HO1.out (by simp) _
    have HU2 : Hid (W2.rowIs (w.heap.size + 1 + 1) 33 4 (rowN (useL m.day rd T 0))) := by show W2.rowIs _ _ _ _; rw [hW2]; exact rowN_put HU1.out 2 (.int .i64 T) (by simp)
    have HW2 := Lib.hid hW2
    obtain ⟨⟨u0, u1, u2, u3⟩, y0, y1, y2, y3⟩ := rowN4 HU1.out
    obtain ⟨⟨a0, a1, a2, a3, a4, a5⟩, _⟩ := rowN6 HR1.out.r
    have hul := HU1.out.lt
    clear hW2 HO1
    go_wp2_with fail
    rw [← HW2.out]
    clear HW2 HU1 HR1 u0 u1 u2 u3 y0 y1 y2 y3 a0 a1 a2 a3 a4 a5 hul
    rw [HT.out]
    refine (kindOf_any m rd rs H.out HC.out _).mono ?_
    rintro e w3 ⟨rfl, hb⟩
    rw [← HT.out]
    obtain ⟨K, hK⟩ : ∃ K, K = Mt.kind m rd rs := ⟨_, rfl⟩
    rw [← hK]
    have HKK := Lib.hid hK
    have HB3 := Lib.hid (HR2.out.below hb).old
    have HO3 := Lib.hid (nrow_below HO2.out hb)
    have HU3 := Lib.hid (nrow_below HU2.out hb)
    clear hb hK HR2 HO2 HU2
    have HO4 := Lib.hid (nrow_set HO3.out (p := ⟨w.heap.size + 1 + 1, 3, none⟩) (by simp) (.int .i64 K))
    obtain ⟨⟨u0, u1, u2, u3⟩, y0, y1, y2, y3⟩ := rowN4 HU3.out
    obtain ⟨⟨o0, o1, o2, o3⟩, z0, z1, z2, z3⟩ := rowN4 HO3.out
    have hul := HU3.out.lt
    go_wp2_with fail
    have zr := mput4 HO4.out rfl (.int .i64 m.day) (.int .i64 rd) (.int .i64 T) (.int .i64 K)
    have zb := mbel4 (g := w.heap.size + 1) (HB3.out.setCell (p := ⟨w.heap.size + 1 + 1, 3, none⟩) (by show w.heap.size ≤ w.heap.size + 1 + 1; omega) (.int .i64 K)) (by omega) (.int .i64 m.day) (.int .i64 rd) (.int .i64 T) (.int .i64 K)
    generalize (((((w3.setCell ⟨w.heap.size + 1 + 1, 3, none⟩ (.int .i64 K)).setCell ⟨w.heap.size + 1, 0, none⟩ (.int .i64 m.day)).setCell ⟨w.heap.size + 1, 1, none⟩ (.int .i64 rd)).setCell ⟨w.heap.size + 1, 2, none⟩ (.int .i64 T)).setCell ⟨w.heap.size + 1, 3, none⟩ (.int .i64 K)) = Z at zr zb ⊢
    obtain ⟨⟨c0, c1, c2, c3⟩, _⟩ := rowN4 zr
    exact bodyPost_ret (v := useV m.day rd T K) (by simp only [results, Tryd.results88]; simp [go_sem, c0, c1, c2, c3]) rfl ⟨by rw [HWK.out, ← HT.out, ← HKK.out], zb⟩
/-- What stands while the meter behind a read is made. -/
structure BhS (w : World) (m : Mt.M) (rd rs a b c d x0 x1 x2 x3 : Int) (W : World) : Prop where
  r : W.rowIs w.heap.size 121 6 (rowN (rgL m rd rs))
  u : W.rowIs (w.heap.size + 1) 33 4 (rowN (useL a b c d))
  o : W.rowIs (w.heap.size + 1 + 1) 24 4 (rowN (useL 0 0 0 0))
  n : W.rowIs (w.heap.size + 1 + 1 + 1) 24 4 (rowN (useL x0 x1 x2 x3))
  old : Below w.heap.size w W
section
variable {w : World} {m : Mt.M} {rd rs a b c d x0 x1 x2 x3 : Int} {W W' : World}
theorem BhS.below (h : BhS w m rd rs a b c d x0 x1 x2 x3 W) (hb : Below W.heap.size W W') : BhS w m rd rs a b c d x0 x1 x2 x3 W' := ⟨nrow_below h.r hb, nrow_below h.u hb, nrow_below h.o hb, nrow_below h.n hb, h.old.trans (hb.mono h.old.size)⟩
theorem BhS.new (w : World) (m : Mt.M) (rd rs a b c d : Int) : BhS w m rd rs a b c d m.d m.u m.day m.s ((((w.alloc (.cells #[.int .i64 m.d, .int .i64 m.u, .int .i64 m.day, .int .i64 m.s, .int .i64 rd, .int .i64 rs] 121)).alloc (.cells #[.int .i64 a, .int .i64 b, .int .i64 c, .int .i64 d] 33)).alloc (.cells #[.int .i64 0, .int .i64 0, .int .i64 0, .int .i64 0] 24)).alloc (.cells #[.int .i64 m.d, .int .i64 m.u, .int .i64 m.day, .int .i64 m.s] 24)) :=
  ⟨nrow_below (nrow_below (nrow_below (rowN_alloc w (rgL m rd rs) _) (nbel_alloc _ _)) (nbel_alloc _ _)) (nbel_alloc _ _), nrow_below (nrow_below (rowN_alloc' (by simp) (useL a b c d) _) (nbel_alloc _ _)) (nbel_alloc _ _), nrow_below (rowN_alloc' (by simp) (useL 0 0 0 0) _) (nbel_alloc _ _), rowN_alloc' (by simp) (mtL m) _, (((nbel_alloc w _).alloc (by simp) _).alloc (by simp; omega) _).alloc (by simp; omega) _⟩
theorem BhS.set (h : BhS w m rd rs a b c d x0 x1 x2 x3 W) (i : Nat) (x : Int) : ((W.setCell ⟨w.heap.size + 1 + 1 + 1, i, none⟩ (.int .i64 x)).rowIs w.heap.size 121 6 (rowN (rgL m rd rs)) ∧ (W.setCell ⟨w.heap.size + 1 + 1 + 1, i, none⟩ (.int .i64 x)).rowIs (w.heap.size + 1) 33 4 (rowN (useL a b c d))) ∧ (W.setCell ⟨w.heap.size + 1 + 1 + 1, i, none⟩ (.int .i64 x)).rowIs (w.heap.size + 1 + 1) 24 4 (rowN (useL 0 0 0 0)) ∧ Below w.heap.size w (W.setCell ⟨w.heap.size + 1 + 1 + 1, i, none⟩ (.int .i64 x)) :=
  ⟨⟨nrow_set h.r (by show w.heap.size ≠ w.heap.size + 1 + 1 + 1; omega) _, nrow_set h.u (by show w.heap.size + 1 ≠ w.heap.size + 1 + 1 + 1; omega) _⟩, nrow_set h.o (by show w.heap.size + 1 + 1 ≠ w.heap.size + 1 + 1 + 1; omega) _, h.old.setCell (p := ⟨w.heap.size + 1 + 1 + 1, i, none⟩) (by show w.heap.size ≤ w.heap.size + 1 + 1 + 1; omega) _⟩
theorem BhS.set1 (h : BhS w m rd rs a b c d x0 x1 x2 x3 W) (x : Int) : BhS w m rd rs a b c d x0 x x2 x3 (W.setCell ⟨w.heap.size + 1 + 1 + 1, 1, none⟩ (.int .i64 x)) := ⟨(h.set 1 x).1.1, (h.set 1 x).1.2, (h.set 1 x).2.1, rowN_put h.n 1 (.int .i64 x) (by simp), (h.set 1 x).2.2⟩
theorem BhS.set2 (h : BhS w m rd rs a b c d x0 x1 x2 x3 W) (x : Int) : BhS w m rd rs a b c d x0 x1 x x3 (W.setCell ⟨w.heap.size + 1 + 1 + 1, 2, none⟩ (.int .i64 x)) := ⟨(h.set 2 x).1.1, (h.set 2 x).1.2, (h.set 2 x).2.1, rowN_put h.n 2 (.int .i64 x) (by simp), (h.set 2 x).2.2⟩
theorem BhS.set3 (h : BhS w m rd rs a b c d x0 x1 x2 x3 W) (x : Int) : BhS w m rd rs a b c d x0 x1 x2 x (W.setCell ⟨w.heap.size + 1 + 1 + 1, 3, none⟩ (.int .i64 x)) := ⟨(h.set 3 x).1.1, (h.set 3 x).1.2, (h.set 3 x).2.1, rowN_put h.n 3 (.int .i64 x) (by simp), (h.set 3 x).2.2⟩
end
set_option maxRecDepth 100000 in
set_option maxHeartbeats 4000000 in
theorem behind_far (m : Mt.M) (rd rs a b c k : Int) (w : World) (h4 : k ≠ 4) (h1 : k ≠ 1) :
    Calls Tryd.prog 89 #[rgV m rd rs, useV a b c k] w fun e w' => e = .returned (mtV ⟨m.d, m.u, rd, rs⟩) ∧ Below w.heap.size w w' := by
  have q4 : (k == 4) = false := by simpa using h4
  have q1 : (k == 1) = false := by simpa using h1
  clear h4 h1
  obtain ⟨W, hW⟩ : ∃ W, W = (((w.alloc (.cells #[.int .i64 m.d, .int .i64 m.u, .int .i64 m.day, .int .i64 m.s, .int .i64 rd, .int .i64 rs] 121)).alloc (.cells #[.int .i64 a, .int .i64 b, .int .i64 c, .int .i64 k] 33)).alloc (.cells #[.int .i64 0, .int .i64 0, .int .i64 0, .int .i64 0] 24)).alloc (.cells #[.int .i64 m.d, .int .i64 m.u, .int .i64 m.day, .int .i64 m.s] 24) := ⟨_, rfl⟩
  have HS : Hid (BhS w m rd rs a b c k m.d m.u m.day m.s W) := by show BhS _ _ _ _ _ _ _ _ _ _ _ _ _; rw [hW]; exact BhS.new w m rd rs a b c k
  have HW := Lib.hid hW
  clear hW
  go_enter Tryd.func89, Tryd.ntmps89
  go_wp2_with fail
  rw [← HW.out]
  clear HW
  obtain ⟨⟨a0, a1, a2, a3, a4, a5⟩, _⟩ := rowN6 HS.out.r
  obtain ⟨⟨n0, n1, n2, n3⟩, y0, y1, y2, y3⟩ := rowN4 HS.out.n
  have hnl := HS.out.n.lt
  go_region
  obtain ⟨V, hV⟩ : ∃ V, V = ((W.setCell ⟨w.heap.size + 1 + 1 + 1, 2, none⟩ (.int .i64 rd)).setCell ⟨w.heap.size + 1 + 1 + 1, 3, none⟩ (.int .i64 rs)).drew := ⟨_, rfl⟩
  have HV : Hid (BhS w m rd rs a b c k m.d m.u rd rs V) := by show BhS _ _ _ _ _ _ _ _ _ _ _ _ _; rw [hV]; exact ((HS.out.set2 rd).set3 rs).below (Below.refl _ _).drew
  rw [← hV]
  clear hV HS a0 a1 a2 a3 a4 a5 n0 n1 n2 n3 y0 y1 y2 y3 hnl
  obtain ⟨⟨u0, u1, u2, u3⟩, _⟩ := rowN4 HV.out.u
  obtain ⟨⟨n0, n1, n2, n3⟩, _⟩ := rowN4 HV.out.n
  obtain ⟨⟨o0, o1, o2, o3⟩, z0, z1, z2, z3⟩ := rowN4 HV.out.o
  go_wp2_with fail
  have zr := mput4 HV.out.o rfl (.int .i64 m.d) (.int .i64 m.u) (.int .i64 rd) (.int .i64 rs)
  have zb := mbel4 (g := w.heap.size + 1 + 1) HV.out.old (by omega) (.int .i64 m.d) (.int .i64 m.u) (.int .i64 rd) (.int .i64 rs)
  generalize ((((V.setCell ⟨w.heap.size + 1 + 1, 0, none⟩ (.int .i64 m.d)).setCell ⟨w.heap.size + 1 + 1, 1, none⟩ (.int .i64 m.u)).setCell ⟨w.heap.size + 1 + 1, 2, none⟩ (.int .i64 rd)).setCell ⟨w.heap.size + 1 + 1, 3, none⟩ (.int .i64 rs)) = Z at zr zb ⊢
  obtain ⟨⟨c0, c1, c2, c3⟩, _⟩ := rowN4 zr
  exact bodyPost_ret (v := mtV ⟨m.d, m.u, rd, rs⟩) (by simp only [results, Tryd.results89]; simp [go_sem, c0, c1, c2, c3]) rfl ⟨rfl, zb⟩
set_option maxRecDepth 100000 in
set_option maxHeartbeats 4000000 in
theorem behind_guess (m : Mt.M) (rd rs a b c : Int) (w : World) (hm : Mt.Right m) (hc : 0 ≤ c ∧ c ≤ 1000000000) :
    Calls Tryd.prog 89 #[rgV m rd rs, useV a b c 4] w fun e w' => e = .returned (mtV ⟨m.d, m.u, rd, (m.s + c) % Mt.full m.d⟩) ∧ Below w.heap.size w w' := by
  obtain ⟨F, hF⟩ : ∃ F, F = Mt.full m.d := ⟨_, rfl⟩
  have hF0 : 1 ≤ F ∧ F ≤ 10000000 := by rw [hF]; exact Mt.full_bd hm.2.2.1.2
  have hs0 : 0 ≤ m.s ∧ m.s < F := by rw [hF]; exact hm.2.2.2
  have HF := Lib.hid hF
  have HD : Hid (0 ≤ m.d ∧ m.d ≤ 8) := ⟨by have := hm.2.2.1.1; omega, by have := hm.2.2.1.2; omega⟩
  rw [← hF]
  have e1 : (m.s + c).tmod F = (m.s + c) % F := Int.tmod_eq_emod_of_nonneg (by omega)
  have e2 : 0 ≤ (m.s + c) % F ∧ (m.s + c) % F < F := ⟨Int.emod_nonneg _ (by omega), Int.emod_lt_of_pos _ (by omega)⟩
  have e3 : (F == 0) = false := by simp; omega
  have e4 : ¬ F = 0 := by omega
  obtain ⟨R, hR⟩ : ∃ R, (m.s + c) % F = R := ⟨_, rfl⟩
  rw [hR] at e1 e2 ⊢
  have w1 : IntKind.i64.wrap (m.s + c) = m.s + c := mwrap_id (by omega) (by omega)
  have w2 : IntKind.i64.wrap R = R := mwrap_id (by omega) (by omega)
  clear hF hm
  obtain ⟨W, hW⟩ : ∃ W, W = (((w.alloc (.cells #[.int .i64 m.d, .int .i64 m.u, .int .i64 m.day, .int .i64 m.s, .int .i64 rd, .int .i64 rs] 121)).alloc (.cells #[.int .i64 a, .int .i64 b, .int .i64 c, .int .i64 4] 33)).alloc (.cells #[.int .i64 0, .int .i64 0, .int .i64 0, .int .i64 0] 24)).alloc (.cells #[.int .i64 m.d, .int .i64 m.u, .int .i64 m.day, .int .i64 m.s] 24) := ⟨_, rfl⟩
  have HS : Hid (BhS w m rd rs a b c 4 m.d m.u m.day m.s W) := by show BhS _ _ _ _ _ _ _ _ _ _ _ _ _; rw [hW]; exact BhS.new w m rd rs a b c 4
  have HW := Lib.hid hW
  clear hW
  go_enter Tryd.func89, Tryd.ntmps89
  go_wp2_with fail
  rw [← HW.out]
  clear HW
  obtain ⟨⟨a0, a1, a2, a3, a4, a5⟩, _⟩ := rowN6 HS.out.r
  obtain ⟨⟨n0, n1, n2, n3⟩, y0, y1, y2, y3⟩ := rowN4 HS.out.n
  have hnl := HS.out.n.lt
  go_region
  obtain ⟨V, hV⟩ : ∃ V, V = ((W.setCell ⟨w.heap.size + 1 + 1 + 1, 2, none⟩ (.int .i64 rd)).setCell ⟨w.heap.size + 1 + 1 + 1, 3, none⟩ (.int .i64 rs)).drew := ⟨_, rfl⟩
  have HV : Hid (BhS w m rd rs a b c 4 m.d m.u rd rs V) := by show BhS _ _ _ _ _ _ _ _ _ _ _ _ _; rw [hV]; exact ((HS.out.set2 rd).set3 rs).below (Below.refl _ _).drew
  rw [← hV]
  clear hV HS a0 a1 a2 a3 a4 a5 n0 n1 n2 n3 y0 y1 y2 y3 hnl
  obtain ⟨⟨u0, u1, u2, u3⟩, _⟩ := rowN4 HV.out.u
  go_wp2_with fail
  refine region_L (BhS w m rd rs a b c 4 m.d m.u rd rs) 11 (by kernel_rfl) (HV.out.below (Below.refl _ _).drew) (fun hHeld => ?_)
  clear HV u0 u1 u2 u3
  generalize V.drew = Vd at hHeld ⊢
  refine takeL_do (i := 0) (v := (.pointer (some ⟨w.heap.size, 0, none⟩))) rfl (by kernel_rfl) (by kernel_rfl) (by kernel_rfl) (by kernel_rfl) (fun _ _ _ h => h) (by rfl) ?_ (by assumption) ?_
  · intro w hSw
    obtain ⟨⟨a0, a1, a2, a3, a4, a5⟩, _⟩ := rowN6 hSw.r; obtain ⟨⟨u0, u1, u2, u3⟩, _⟩ := rowN4 hSw.u; obtain ⟨⟨n0, n1, n2, n3⟩, _⟩ := rowN4 hSw.n
    go_simp
  simp only [Act.put, List.setIfInBounds_toArray, List.set_cons_zero, List.set_cons_succ]
  refine takeL_do (i := 1) (v := (.pointer (some ⟨w.heap.size, 3, none⟩))) rfl (by kernel_rfl) (by kernel_rfl) (by kernel_rfl) (by kernel_rfl) (fun _ _ _ h => h) (by rfl) ?_ (by assumption) ?_
  · intro w hSw
    obtain ⟨⟨a0, a1, a2, a3, a4, a5⟩, _⟩ := rowN6 hSw.r; obtain ⟨⟨u0, u1, u2, u3⟩, _⟩ := rowN4 hSw.u; obtain ⟨⟨n0, n1, n2, n3⟩, _⟩ := rowN4 hSw.n
    go_simp
  simp only [Act.put, List.setIfInBounds_toArray, List.set_cons_zero, List.set_cons_succ]
  refine takeL_do (i := 2) (v := (.int .i64 m.s)) rfl (by kernel_rfl) (by kernel_rfl) (by kernel_rfl) (by kernel_rfl) (fun _ _ _ h => h) (by rfl) ?_ (by assumption) ?_
  · intro w hSw
    obtain ⟨⟨a0, a1, a2, a3, a4, a5⟩, _⟩ := rowN6 hSw.r; obtain ⟨⟨u0, u1, u2, u3⟩, _⟩ := rowN4 hSw.u; obtain ⟨⟨n0, n1, n2, n3⟩, _⟩ := rowN4 hSw.n
    go_simp
  simp only [Act.put, List.setIfInBounds_toArray, List.set_cons_zero, List.set_cons_succ]
  refine takeL_do (i := 3) (v := (.pointer (some ⟨w.heap.size + 1, 2, none⟩))) rfl (by kernel_rfl) (by kernel_rfl) (by kernel_rfl) (by kernel_rfl) (fun _ _ _ h => h) (by rfl) ?_ (by assumption) ?_
  · intro w hSw
    obtain ⟨⟨a0, a1, a2, a3, a4, a5⟩, _⟩ := rowN6 hSw.r; obtain ⟨⟨u0, u1, u2, u3⟩, _⟩ := rowN4 hSw.u; obtain ⟨⟨n0, n1, n2, n3⟩, _⟩ := rowN4 hSw.n
    go_simp
  simp only [Act.put, List.setIfInBounds_toArray, List.set_cons_zero, List.set_cons_succ]
  refine takeL_do (i := 4) (v := (.int .i64 c)) rfl (by kernel_rfl) (by kernel_rfl) (by kernel_rfl) (by kernel_rfl) (fun _ _ _ h => h) (by rfl) ?_ (by assumption) ?_
  · intro w hSw
    obtain ⟨⟨a0, a1, a2, a3, a4, a5⟩, _⟩ := rowN6 hSw.r; obtain ⟨⟨u0, u1, u2, u3⟩, _⟩ := rowN4 hSw.u; obtain ⟨⟨n0, n1, n2, n3⟩, _⟩ := rowN4 hSw.n
    go_simp
  simp only [Act.put, List.setIfInBounds_toArray, List.set_cons_zero, List.set_cons_succ]
  refine takeL_do (i := 5) (v := (.int .i64 (m.s + c))) rfl (by kernel_rfl) (by kernel_rfl) (by kernel_rfl) (by kernel_rfl) (fun _ _ _ h => h) (by rfl) ?_ (by assumption) ?_
  · intro w hSw
    obtain ⟨⟨a0, a1, a2, a3, a4, a5⟩, _⟩ := rowN6 hSw.r; obtain ⟨⟨u0, u1, u2, u3⟩, _⟩ := rowN4 hSw.u; obtain ⟨⟨n0, n1, n2, n3⟩, _⟩ := rowN4 hSw.n
    go_simp
  simp only [Act.put, List.setIfInBounds_toArray, List.set_cons_zero, List.set_cons_succ]
  refine takeL_do (i := 6) (v := (.pointer (some ⟨w.heap.size + 1 + 1 + 1, 0, none⟩))) rfl (by kernel_rfl) (by kernel_rfl) (by kernel_rfl) (by kernel_rfl) (fun _ _ _ h => h) (by rfl) ?_ (by assumption) ?_
  · intro w hSw
    obtain ⟨⟨a0, a1, a2, a3, a4, a5⟩, _⟩ := rowN6 hSw.r; obtain ⟨⟨u0, u1, u2, u3⟩, _⟩ := rowN4 hSw.u; obtain ⟨⟨n0, n1, n2, n3⟩, _⟩ := rowN4 hSw.n
    go_simp
  simp only [Act.put, List.setIfInBounds_toArray, List.set_cons_zero, List.set_cons_succ]
  refine takeL_do (i := 7) (v := (.int .i64 m.d)) rfl (by kernel_rfl) (by kernel_rfl) (by kernel_rfl) (by kernel_rfl) (fun _ _ _ h => h) (by rfl) ?_ (by assumption) ?_
  · intro w hSw
    obtain ⟨⟨a0, a1, a2, a3, a4, a5⟩, _⟩ := rowN6 hSw.r; obtain ⟨⟨u0, u1, u2, u3⟩, _⟩ := rowN4 hSw.u; obtain ⟨⟨n0, n1, n2, n3⟩, _⟩ := rowN4 hSw.n
    go_simp
  simp only [Act.put, List.setIfInBounds_toArray, List.set_cons_zero, List.set_cons_succ]
  refine takeL_call (i := 8) rfl (by kernel_rfl) (fun K2 hK => ?_)
  go_simp
  refine (ifull_any m.d HD.out _).mono ?_
  rintro e w3 ⟨rfl, rfl⟩
  rw [← HF.out]
  go_wp2_with fail
  refine hK.out _ _ hHeld (fun hHeld2 => ?_)
  clear hK hHeld
  have hHeld := hHeld2
  clear hHeld2
  refine takeL_do (i := 9) (v := (.int .i64 R)) rfl (by kernel_rfl) (by kernel_rfl) (by kernel_rfl) (by kernel_rfl) (fun _ _ _ h => h) (by rfl) ?_ (by assumption) ?_
  · intro w hSw
    obtain ⟨⟨a0, a1, a2, a3, a4, a5⟩, _⟩ := rowN6 hSw.r; obtain ⟨⟨u0, u1, u2, u3⟩, _⟩ := rowN4 hSw.u; obtain ⟨⟨n0, n1, n2, n3⟩, _⟩ := rowN4 hSw.n
    go_simp
  simp only [Act.put, List.setIfInBounds_toArray, List.set_cons_zero, List.set_cons_succ]
  refine takeL_do (i := 10) (v := (.pointer (some ⟨w.heap.size + 1 + 1 + 1, 3, none⟩))) rfl (by kernel_rfl) (by kernel_rfl) (by kernel_rfl) (by kernel_rfl) (fun _ _ _ h => h) (by rfl) ?_ (by assumption) ?_
  · intro w hSw
    obtain ⟨⟨a0, a1, a2, a3, a4, a5⟩, _⟩ := rowN6 hSw.r; obtain ⟨⟨u0, u1, u2, u3⟩, _⟩ := rowN4 hSw.u; obtain ⟨⟨n0, n1, n2, n3⟩, _⟩ := rowN4 hSw.n
    go_simp
  simp only [Act.put, List.setIfInBounds_toArray, List.set_cons_zero, List.set_cons_succ]
  refine takeL_last rfl (by kernel_rfl) (by kernel_rfl) (fun K2 hK => ?_)
  obtain ⟨⟨n0, n1, n2, n3⟩, y0, y1, y2, y3⟩ := rowN4 hHeld.n
  have HV2 := Lib.hid (hHeld.set3 R)
  clear hHeld
  go_wp2_with fail
  refine hK.out _ _ ?_
  clear hK n0 n1 n2 n3 y0 y1 y2 y3
  generalize w3.setCell ⟨w.heap.size + 1 + 1 + 1, 3, none⟩ (.int .i64 R) = V2 at HV2 ⊢
  obtain ⟨⟨n0, n1, n2, n3⟩, _⟩ := rowN4 HV2.out.n
  obtain ⟨⟨o0, o1, o2, o3⟩, z0, z1, z2, z3⟩ := rowN4 HV2.out.o
  go_wp2_with fail
  have zr := mput4 HV2.out.o rfl (.int .i64 m.d) (.int .i64 m.u) (.int .i64 rd) (.int .i64 R)
  have zb := mbel4 (g := w.heap.size + 1 + 1) HV2.out.old (by omega) (.int .i64 m.d) (.int .i64 m.u) (.int .i64 rd) (.int .i64 R)
  generalize ((((V2.setCell ⟨w.heap.size + 1 + 1, 0, none⟩ (.int .i64 m.d)).setCell ⟨w.heap.size + 1 + 1, 1, none⟩ (.int .i64 m.u)).setCell ⟨w.heap.size + 1 + 1, 2, none⟩ (.int .i64 rd)).setCell ⟨w.heap.size + 1 + 1, 3, none⟩ (.int .i64 R)) = Z at zr zb ⊢
  obtain ⟨⟨c0, c1, c2, c3⟩, _⟩ := rowN4 zr
  exact bodyPost_ret (v := mtV ⟨m.d, m.u, rd, R⟩) (by simp only [results, Tryd.results89]; simp [go_sem, c0, c1, c2, c3]) rfl ⟨rfl, zb⟩
set_option maxRecDepth 100000 in
set_option maxHeartbeats 4000000 in
theorem behind_good (m : Mt.M) (rd rs a b c : Int) (w : World) (h : Mt.ReadOk m rd rs) (hc : 0 ≤ c ∧ c ≤ 1000000000) :
    Calls Tryd.prog 89 #[rgV m rd rs, useV a b c 1] w fun e w' => e = .returned (mtV ⟨m.d, min ((3 * m.u + c / (rd - m.day)) / 4) 10000, rd, rs⟩) ∧ Below w.heap.size w w' := by
  have hu : 0 ≤ m.u ∧ m.u ≤ 10000 := h.1.1
  obtain ⟨D, hD⟩ : ∃ D, rd - m.day = D := ⟨_, rfl⟩
  have hD0 : 0 < D ∧ D ≤ 100000 := by have h1 := h.2.1; have h2 := h.1.2.1; omega
  have HD := Lib.hid hD
  have H := Lib.hid h
  rw [hD]
  obtain ⟨q, hq⟩ : ∃ q, c / D = q := ⟨_, rfl⟩
  have hq0 : 0 ≤ q ∧ q ≤ 1000000000 := by rw [← hq]; exact ⟨Int.ediv_nonneg hc.1 (by omega), Int.le_trans (Int.ediv_le_self _ hc.1) hc.2⟩
  have e1 : c.tdiv D = q := by rw [← hq]; exact Int.tdiv_eq_ediv_of_nonneg hc.1
  have e3 : ¬ D = 0 := by omega
  rw [hq]
  obtain ⟨X, hX⟩ : ∃ X, (3 * m.u + q) / 4 = X := ⟨_, rfl⟩
  have hX0 : 0 ≤ X ∧ X ≤ 1000000000 := by omega
  have e4 : (3 * m.u + q).tdiv 4 = X := by rw [← hX]; exact Int.tdiv_eq_ediv_of_nonneg (by omega)
  rw [hX]
  obtain ⟨Y, hY⟩ : ∃ Y, min X 10000 = Y := ⟨_, rfl⟩
  have hY0 : 0 ≤ Y ∧ Y ≤ 10000 := by omega
  have HY := Lib.hid hY
  rw [hY]
  have w1 : IntKind.i64.wrap (3 * m.u) = 3 * m.u := mwrap_id (by omega) (by omega)
  have w2 : IntKind.i64.wrap q = q := mwrap_id (by omega) (by omega)
  have w3 : IntKind.i64.wrap (3 * m.u + q) = 3 * m.u + q := mwrap_id (by omega) (by omega)
  have w4 : IntKind.i64.wrap X = X := mwrap_id (by omega) (by omega)
  clear h hD hY
  obtain ⟨W, hW⟩ : ∃ W, W = (((w.alloc (.cells #[.int .i64 m.d, .int .i64 m.u, .int .i64 m.day, .int .i64 m.s, .int .i64 rd, .int .i64 rs] 121)).alloc (.cells #[.int .i64 a, .int .i64 b, .int .i64 c, .int .i64 1] 33)).alloc (.cells #[.int .i64 0, .int .i64 0, .int .i64 0, .int .i64 0] 24)).alloc (.cells #[.int .i64 m.d, .int .i64 m.u, .int .i64 m.day, .int .i64 m.s] 24) := ⟨_, rfl⟩
  have HS : Hid (BhS w m rd rs a b c 1 m.d m.u m.day m.s W) := by show BhS _ _ _ _ _ _ _ _ _ _ _ _ _; rw [hW]; exact BhS.new w m rd rs a b c 1
  have HW := Lib.hid hW
  clear hW
  go_enter Tryd.func89, Tryd.ntmps89
  go_wp2_with fail
  rw [← HW.out]
  clear HW
  obtain ⟨⟨a0, a1, a2, a3, a4, a5⟩, _⟩ := rowN6 HS.out.r
  obtain ⟨⟨n0, n1, n2, n3⟩, y0, y1, y2, y3⟩ := rowN4 HS.out.n
  have hnl := HS.out.n.lt
  go_region
  obtain ⟨V, hV⟩ : ∃ V, V = ((W.setCell ⟨w.heap.size + 1 + 1 + 1, 2, none⟩ (.int .i64 rd)).setCell ⟨w.heap.size + 1 + 1 + 1, 3, none⟩ (.int .i64 rs)).drew := ⟨_, rfl⟩
  have HV : Hid (BhS w m rd rs a b c 1 m.d m.u rd rs V) := by show BhS _ _ _ _ _ _ _ _ _ _ _ _ _; rw [hV]; exact ((HS.out.set2 rd).set3 rs).below (Below.refl _ _).drew
  rw [← hV]
  clear hV HS a0 a1 a2 a3 a4 a5 n0 n1 n2 n3 y0 y1 y2 y3 hnl
  obtain ⟨⟨u0, u1, u2, u3⟩, _⟩ := rowN4 HV.out.u
  go_wp2_with fail
  refine region_L (BhS w m rd rs a b c 1 m.d m.u rd rs) 12 (by kernel_rfl) (HV.out.below (Below.refl _ _).drew) (fun hHeld => ?_)
  clear HV u0 u1 u2 u3
  refine takeL_do (i := 0) (v := (.pointer (some ⟨w.heap.size + 1 + 1 + 1, 1, none⟩))) rfl (by kernel_rfl) (by kernel_rfl) (by kernel_rfl) (by kernel_rfl) (fun _ _ _ h => h) (by rfl) ?_ (by assumption) ?_
  · intro w hSw
    obtain ⟨⟨a0, a1, a2, a3, a4, a5⟩, _⟩ := rowN6 hSw.r; obtain ⟨⟨u0, u1, u2, u3⟩, _⟩ := rowN4 hSw.u; obtain ⟨⟨n0, n1, n2, n3⟩, _⟩ := rowN4 hSw.n
    go_simp
  simp only [Act.put, List.setIfInBounds_toArray, List.set_cons_zero, List.set_cons_succ]
  refine takeL_do (i := 1) (v := (.int .i64 m.u)) rfl (by kernel_rfl) (by kernel_rfl) (by kernel_rfl) (by kernel_rfl) (fun _ _ _ h => h) (by rfl) ?_ (by assumption) ?_
  · intro w hSw
    obtain ⟨⟨a0, a1, a2, a3, a4, a5⟩, _⟩ := rowN6 hSw.r; obtain ⟨⟨u0, u1, u2, u3⟩, _⟩ := rowN4 hSw.u; obtain ⟨⟨n0, n1, n2, n3⟩, _⟩ := rowN4 hSw.n
    go_simp
  simp only [Act.put, List.setIfInBounds_toArray, List.set_cons_zero, List.set_cons_succ]
  refine takeL_do (i := 2) (v := (.int .i64 (3 * m.u))) rfl (by kernel_rfl) (by kernel_rfl) (by kernel_rfl) (by kernel_rfl) (fun _ _ _ h => h) (by rfl) ?_ (by assumption) ?_
  · intro w hSw
    obtain ⟨⟨a0, a1, a2, a3, a4, a5⟩, _⟩ := rowN6 hSw.r; obtain ⟨⟨u0, u1, u2, u3⟩, _⟩ := rowN4 hSw.u; obtain ⟨⟨n0, n1, n2, n3⟩, _⟩ := rowN4 hSw.n
    go_simp
  simp only [Act.put, List.setIfInBounds_toArray, List.set_cons_zero, List.set_cons_succ]
  refine takeL_do (i := 3) (v := (.pointer (some ⟨w.heap.size + 1, 2, none⟩))) rfl (by kernel_rfl) (by kernel_rfl) (by kernel_rfl) (by kernel_rfl) (fun _ _ _ h => h) (by rfl) ?_ (by assumption) ?_
  · intro w hSw
    obtain ⟨⟨a0, a1, a2, a3, a4, a5⟩, _⟩ := rowN6 hSw.r; obtain ⟨⟨u0, u1, u2, u3⟩, _⟩ := rowN4 hSw.u; obtain ⟨⟨n0, n1, n2, n3⟩, _⟩ := rowN4 hSw.n
    go_simp
  simp only [Act.put, List.setIfInBounds_toArray, List.set_cons_zero, List.set_cons_succ]
  refine takeL_do (i := 4) (v := (.int .i64 c)) rfl (by kernel_rfl) (by kernel_rfl) (by kernel_rfl) (by kernel_rfl) (fun _ _ _ h => h) (by rfl) ?_ (by assumption) ?_
  · intro w hSw
    obtain ⟨⟨a0, a1, a2, a3, a4, a5⟩, _⟩ := rowN6 hSw.r; obtain ⟨⟨u0, u1, u2, u3⟩, _⟩ := rowN4 hSw.u; obtain ⟨⟨n0, n1, n2, n3⟩, _⟩ := rowN4 hSw.n
    go_simp
  simp only [Act.put, List.setIfInBounds_toArray, List.set_cons_zero, List.set_cons_succ]
  refine takeL_do (i := 5) (v := (rgV m rd rs)) rfl (by kernel_rfl) (by kernel_rfl) (by kernel_rfl) (by kernel_rfl) (fun _ _ _ h => h) (by rfl) ?_ (by assumption) ?_
  · intro w hSw
    obtain ⟨⟨a0, a1, a2, a3, a4, a5⟩, _⟩ := rowN6 hSw.r; obtain ⟨⟨u0, u1, u2, u3⟩, _⟩ := rowN4 hSw.u; obtain ⟨⟨n0, n1, n2, n3⟩, _⟩ := rowN4 hSw.n
    go_simp
  simp only [Act.put, List.setIfInBounds_toArray, List.set_cons_zero, List.set_cons_succ]
  refine takeL_call (i := 6) rfl (by kernel_rfl) (fun K2 hK => ?_)
  go_simp
  refine (days_any m rd rs H.out _).mono ?_
  rintro e w3 ⟨rfl, hb⟩
  rw [HD.out]
  go_wp2_with fail
  refine hK.out _ _ (hHeld.below hb) (fun hHeld2 => ?_)
  clear hK hHeld hb
  have hHeld := hHeld2
  clear hHeld2
  refine takeL_do (i := 7) (v := (.int .i64 q)) rfl (by kernel_rfl) (by kernel_rfl) (by kernel_rfl) (by kernel_rfl) (fun _ _ _ h => h) (by rfl) ?_ (by assumption) ?_
  · intro w hSw
    obtain ⟨⟨a0, a1, a2, a3, a4, a5⟩, _⟩ := rowN6 hSw.r; obtain ⟨⟨u0, u1, u2, u3⟩, _⟩ := rowN4 hSw.u; obtain ⟨⟨n0, n1, n2, n3⟩, _⟩ := rowN4 hSw.n
    go_simp
  simp only [Act.put, List.setIfInBounds_toArray, List.set_cons_zero, List.set_cons_succ]
  refine takeL_do (i := 8) (v := (.int .i64 (3 * m.u + q))) rfl (by kernel_rfl) (by kernel_rfl) (by kernel_rfl) (by kernel_rfl) (fun _ _ _ h => h) (by rfl) ?_ (by assumption) ?_
  · intro w hSw
    obtain ⟨⟨a0, a1, a2, a3, a4, a5⟩, _⟩ := rowN6 hSw.r; obtain ⟨⟨u0, u1, u2, u3⟩, _⟩ := rowN4 hSw.u; obtain ⟨⟨n0, n1, n2, n3⟩, _⟩ := rowN4 hSw.n
    go_simp
  simp only [Act.put, List.setIfInBounds_toArray, List.set_cons_zero, List.set_cons_succ]
  refine takeL_do (i := 9) (v := (.int .i64 X)) rfl (by kernel_rfl) (by kernel_rfl) (by kernel_rfl) (by kernel_rfl) (fun _ _ _ h => h) (by rfl) ?_ (by assumption) ?_
  · intro w hSw
    obtain ⟨⟨a0, a1, a2, a3, a4, a5⟩, _⟩ := rowN6 hSw.r; obtain ⟨⟨u0, u1, u2, u3⟩, _⟩ := rowN4 hSw.u; obtain ⟨⟨n0, n1, n2, n3⟩, _⟩ := rowN4 hSw.n
    go_simp
  simp only [Act.put, List.setIfInBounds_toArray, List.set_cons_zero, List.set_cons_succ]
  by_cases hmin : X < 10000
  · have hYX : Y = X := by have := HY.out; omega
    subst hYX
    refine takeL_do (i := 10) (v := (.int .i64 Y)) rfl (by kernel_rfl) (by kernel_rfl) (by kernel_rfl) (by kernel_rfl) (fun _ _ _ h => h) (by rfl) ?_ (by assumption) ?_
    · intro w hSw
      obtain ⟨⟨a0, a1, a2, a3, a4, a5⟩, _⟩ := rowN6 hSw.r; obtain ⟨⟨u0, u1, u2, u3⟩, _⟩ := rowN4 hSw.u; obtain ⟨⟨n0, n1, n2, n3⟩, _⟩ := rowN4 hSw.n
      go_simp
      intro _; omega
    simp only [Act.put, List.setIfInBounds_toArray, List.set_cons_zero, List.set_cons_succ]
    refine takeL_do (i := 11) (v := (.pointer (some ⟨w.heap.size + 1 + 1 + 1, 1, none⟩))) rfl (by kernel_rfl) (by kernel_rfl) (by kernel_rfl) (by kernel_rfl) (fun _ _ _ h => h) (by rfl) ?_ (by assumption) ?_
    · intro w hSw
      obtain ⟨⟨a0, a1, a2, a3, a4, a5⟩, _⟩ := rowN6 hSw.r; obtain ⟨⟨u0, u1, u2, u3⟩, _⟩ := rowN4 hSw.u; obtain ⟨⟨n0, n1, n2, n3⟩, _⟩ := rowN4 hSw.n
      go_simp
    simp only [Act.put, List.setIfInBounds_toArray, List.set_cons_zero, List.set_cons_succ]
    refine takeL_last rfl (by kernel_rfl) (by kernel_rfl) (fun K2 hK => ?_)
    obtain ⟨⟨n0, n1, n2, n3⟩, y0, y1, y2, y3⟩ := rowN4 hHeld.n
    have HV2 := Lib.hid (hHeld.set1 Y)
    clear hHeld
    go_wp2_with fail
    refine hK.out _ _ ?_
    clear hK n0 n1 n2 n3 y0 y1 y2 y3
    generalize w3.setCell ⟨w.heap.size + 1 + 1 + 1, 1, none⟩ (.int .i64 Y) = V2 at HV2 ⊢
    obtain ⟨⟨n0, n1, n2, n3⟩, _⟩ := rowN4 HV2.out.n
    obtain ⟨⟨o0, o1, o2, o3⟩, z0, z1, z2, z3⟩ := rowN4 HV2.out.o
    go_wp2_with fail
    have zr := mput4 HV2.out.o rfl (.int .i64 m.d) (.int .i64 Y) (.int .i64 rd) (.int .i64 rs)
    have zb := mbel4 (g := w.heap.size + 1 + 1) HV2.out.old (by omega) (.int .i64 m.d) (.int .i64 Y) (.int .i64 rd) (.int .i64 rs)
    generalize ((((V2.setCell ⟨w.heap.size + 1 + 1, 0, none⟩ (.int .i64 m.d)).setCell ⟨w.heap.size + 1 + 1, 1, none⟩ (.int .i64 Y)).setCell ⟨w.heap.size + 1 + 1, 2, none⟩ (.int .i64 rd)).setCell ⟨w.heap.size + 1 + 1, 3, none⟩ (.int .i64 rs)) = Z at zr zb ⊢
    obtain ⟨⟨c0, c1, c2, c3⟩, _⟩ := rowN4 zr
    exact bodyPost_ret (v := mtV ⟨m.d, Y, rd, rs⟩) (by simp only [results, Tryd.results89]; simp [go_sem, c0, c1, c2, c3]) rfl ⟨rfl, zb⟩
  · have hYX : Y = 10000 := by have := HY.out; omega
    subst hYX
    refine takeL_do (i := 10) (v := (.int .i64 10000)) rfl (by kernel_rfl) (by kernel_rfl) (by kernel_rfl) (by kernel_rfl) (fun _ _ _ h => h) (by rfl) ?_ (by assumption) ?_
    · intro w hSw
      obtain ⟨⟨a0, a1, a2, a3, a4, a5⟩, _⟩ := rowN6 hSw.r; obtain ⟨⟨u0, u1, u2, u3⟩, _⟩ := rowN4 hSw.u; obtain ⟨⟨n0, n1, n2, n3⟩, _⟩ := rowN4 hSw.n
      go_simp
      intro _; omega
    simp only [Act.put, List.setIfInBounds_toArray, List.set_cons_zero, List.set_cons_succ]
    refine takeL_do (i := 11) (v := (.pointer (some ⟨w.heap.size + 1 + 1 + 1, 1, none⟩))) rfl (by kernel_rfl) (by kernel_rfl) (by kernel_rfl) (by kernel_rfl) (fun _ _ _ h => h) (by rfl) ?_ (by assumption) ?_
    · intro w hSw
      obtain ⟨⟨a0, a1, a2, a3, a4, a5⟩, _⟩ := rowN6 hSw.r; obtain ⟨⟨u0, u1, u2, u3⟩, _⟩ := rowN4 hSw.u; obtain ⟨⟨n0, n1, n2, n3⟩, _⟩ := rowN4 hSw.n
      go_simp
    simp only [Act.put, List.setIfInBounds_toArray, List.set_cons_zero, List.set_cons_succ]
    refine takeL_last rfl (by kernel_rfl) (by kernel_rfl) (fun K2 hK => ?_)
    obtain ⟨⟨n0, n1, n2, n3⟩, y0, y1, y2, y3⟩ := rowN4 hHeld.n
    have HV2 := Lib.hid (hHeld.set1 10000)
    clear hHeld
    go_wp2_with fail
    refine hK.out _ _ ?_
    clear hK n0 n1 n2 n3 y0 y1 y2 y3
    generalize w3.setCell ⟨w.heap.size + 1 + 1 + 1, 1, none⟩ (.int .i64 10000) = V2 at HV2 ⊢
    obtain ⟨⟨n0, n1, n2, n3⟩, _⟩ := rowN4 HV2.out.n
    obtain ⟨⟨o0, o1, o2, o3⟩, z0, z1, z2, z3⟩ := rowN4 HV2.out.o
    go_wp2_with fail
    have zr := mput4 HV2.out.o rfl (.int .i64 m.d) (.int .i64 10000) (.int .i64 rd) (.int .i64 rs)
    have zb := mbel4 (g := w.heap.size + 1 + 1) HV2.out.old (by omega) (.int .i64 m.d) (.int .i64 10000) (.int .i64 rd) (.int .i64 rs)
    generalize ((((V2.setCell ⟨w.heap.size + 1 + 1, 0, none⟩ (.int .i64 m.d)).setCell ⟨w.heap.size + 1 + 1, 1, none⟩ (.int .i64 10000)).setCell ⟨w.heap.size + 1 + 1, 2, none⟩ (.int .i64 rd)).setCell ⟨w.heap.size + 1 + 1, 3, none⟩ (.int .i64 rs)) = Z at zr zb ⊢
    obtain ⟨⟨c0, c1, c2, c3⟩, _⟩ := rowN4 zr
    exact bodyPost_ret (v := mtV ⟨m.d, 10000, rd, rs⟩) (by simp only [results, Tryd.results89]; simp [go_sem, c0, c1, c2, c3]) rfl ⟨rfl, zb⟩
theorem behindOne_any (m : Mt.M) (rd rs : Int) (w : World) (h : Mt.ReadOk m rd rs) :
    Calls Tryd.prog 89 #[rgV m rd rs, useV m.day rd (Mt.water m rd rs) (Mt.kind m rd rs)] w fun e w' => e = .returned (mtV (Mt.next m rd rs)) ∧ Below w.heap.size w w' := by
  have hw := Mt.water_bd h
  by_cases c : rs = -1
  · subst c
    rw [Mt.next_guess, Mt.kind_guess]
    rw [Mt.water_guess] at hw ⊢
    exact behind_guess m rd (-1) m.day rd (Mt.usual m rd) w h.1 hw
  · by_cases k : Mt.kind m rd rs = 1
    · rw [Mt.next_good c k, k]
      rw [Mt.water_read c] at hw ⊢
      exact behind_good m rd rs m.day rd (Mt.turn m.d m.s rs) w h hw
    · rw [Mt.next_far c k]
      refine behind_far m rd rs m.day rd (Mt.water m rd rs) (Mt.kind m rd rs) w (fun e => ?_) k
      have : Mt.kind m rd rs = 2 ∨ Mt.kind m rd rs = 3 ∨ Mt.kind m rd rs = 1 := by
        by_cases p : 5 * Mt.usual m rd + 100 < Mt.turn m.d m.s rs
        · exact Or.inl (Mt.kind_high c p)
        · by_cases q : 10 * Mt.turn m.d m.s rs < Mt.usual m rd
          · exact Or.inr (Or.inl (Mt.kind_low c p q))
          · exact Or.inr (Or.inr (Mt.kind_good c p q))
      omega
end Go.Proofs.YtmejmpdljckfgaaDoor
