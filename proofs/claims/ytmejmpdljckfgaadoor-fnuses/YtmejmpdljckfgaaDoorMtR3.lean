/-
  The program's reading told, and MeterRead.
-/
import Derived.Test.YtmejmpdljckfgaaDoorMtR2
namespace Go.Proofs.YtmejmpdljckfgaaDoor
open Go.RowKit Go.Deep

theorem rowN6' {w : World} {g : Nat} {t : TypeId} {l : List Value} (h : w.rowIs g t 6 (rowN l)) : w.frozen? ⟨g, 0, none⟩ = false := h.frozen 0
theorem mput6 {T : TypeId} {g : Nat} {W : World} {l : List Value} (h : W.rowIs g T 6 (rowN l)) (hl : l.length = 6) (a b c d e f : Value) :
    (((((((W).setCell ⟨g, 0, none⟩ a).setCell ⟨g, 1, none⟩ b).setCell ⟨g, 2, none⟩ c).setCell ⟨g, 3, none⟩ d).setCell ⟨g, 4, none⟩ e).setCell ⟨g, 5, none⟩ f).rowIs g T 6 (rowN [a, b, c, d, e, f]) := by
  match l, hl with
  | [x0, x1, x2, x3, x4, x5], _ => exact rowN_put (rowN_put (rowN_put (rowN_put (rowN_put (rowN_put h 0 a (by simp)) 1 b (by simp)) 2 c (by simp)) 3 d (by simp)) 4 e (by simp)) 5 f (by simp)
theorem mblk6 {g j : Nat} {W : World} (hj : j ≠ g) (a b c d e f : Value) :
    (((((((W).setCell ⟨g, 0, none⟩ a).setCell ⟨g, 1, none⟩ b).setCell ⟨g, 2, none⟩ c).setCell ⟨g, 3, none⟩ d).setCell ⟨g, 4, none⟩ e).setCell ⟨g, 5, none⟩ f).heap[j]? = W.heap[j]? := by
  rw [Below.heap_setCell _ _ _ _ hj, Below.heap_setCell _ _ _ _ hj, Below.heap_setCell _ _ _ _ hj, Below.heap_setCell _ _ _ _ hj, Below.heap_setCell _ _ _ _ hj, Below.heap_setCell _ _ _ _ hj]
theorem mrow6 {T : TypeId} {g j n : Nat} {W : World} {F : Nat → Value} (h : W.rowIs j T n F) (hj : j ≠ g) (a b c d e f : Value) :
    (((((((W).setCell ⟨g, 0, none⟩ a).setCell ⟨g, 1, none⟩ b).setCell ⟨g, 2, none⟩ c).setCell ⟨g, 3, none⟩ d).setCell ⟨g, 4, none⟩ e).setCell ⟨g, 5, none⟩ f).rowIs j T n F := h.of_block (mblk6 hj a b c d e f)
theorem mbel6 {B g : Nat} {w W : World} (h : Below B w W) (hg : B ≤ g) (a b c d e f : Value) :
    Below B w (((((((W).setCell ⟨g, 0, none⟩ a).setCell ⟨g, 1, none⟩ b).setCell ⟨g, 2, none⟩ c).setCell ⟨g, 3, none⟩ d).setCell ⟨g, 4, none⟩ e).setCell ⟨g, 5, none⟩ f) :=
  (((((h.setCell (p := ⟨g, 0, none⟩) hg _).setCell (p := ⟨g, 1, none⟩) hg _).setCell (p := ⟨g, 2, none⟩) hg _).setCell (p := ⟨g, 3, none⟩) hg _).setCell (p := ⟨g, 4, none⟩) hg _).setCell (p := ⟨g, 5, none⟩) hg _
/-- One read as a list. -/
def Mt.rd1 (rd rs : Int) (j : Nat) : Int := if j = 0 then rd else rs
theorem Mt.use_one (m : Mt.M) (rd rs : Int) (j : Nat) (hj : j < 4) : [m.day, rd, Mt.water m rd rs, Mt.kind m rd rs].getD j 0 = Mt.use m (Mt.rd1 rd rs) j := by
  have : j = 0 ∨ j = 1 ∨ j = 2 ∨ j = 3 := by omega
  rcases this with rfl | rfl | rfl | rfl
  · exact (Mt.use0 m (Mt.rd1 rd rs) 0).symm
  · exact (Mt.use1 m (Mt.rd1 rd rs) 0).symm
  · exact (Mt.use2 m (Mt.rd1 rd rs) 0).symm
  · exact (Mt.use3 m (Mt.rd1 rd rs) 0).symm
theorem use_blk {g : Nat} {W : World} {m : Mt.M} {rd rs : Int} (h : W.rowIs g 33 4 (rowN (useL m.day rd (Mt.water m rd rs) (Mt.kind m rd rs)))) : IsBlk 33 g (1 * 4) (Mt.use m (Mt.rd1 rd rs)) W := by
  refine ⟨4, _, by omega, h, fun j hj => ?_⟩
  rw [← Mt.use_one m rd rs j (by omega)]
  have : j = 0 ∨ j = 1 ∨ j = 2 ∨ j = 3 := by omega
  rcases this with rfl | rfl | rfl | rfl <;> rfl
/-- How a reading is told. -/
def TdEnd (B : Nat) (m : Mt.M) (rd rs : Int) (e : Ending) (W : World) : Prop :=
  (¬ Mt.ReadOk m rd rs ∧ ∃ y, e = .returned (.tuple #[muV Mt.none none 0 0 0, .iface 83 y]) ∧ AsF y 1) ∨
  (Mt.ReadOk m rd rs ∧ ∃ g, e = .returned (.tuple #[muV (Mt.next m rd rs) (some ⟨g, 0, none⟩) 1 1 0, .nilIface]) ∧ B ≤ g ∧ IsBlk 33 g (1 * 4) (Mt.use m (Mt.rd1 rd rs)) W)
/-- What stands while it is told. -/
structure ToS (w : World) (m : Mt.M) (rd rs : Int) (g : Nat) (W : World) : Prop where
  r : W.rowIs w.heap.size 121 6 (rowN (rgL m rd rs))
  u : W.rowIs g 33 4 (rowN (useL m.day rd (Mt.water m rd rs) (Mt.kind m rd rs)))
  o : ∃ l, l.length = 6 ∧ W.rowIs (w.heap.size + 1) 30 6 (rowN l)
  old : Below w.heap.size w W
theorem ToS.below {w : World} {m : Mt.M} {rd rs : Int} {g : Nat} {W W' : World} (h : ToS w m rd rs g W) (hb : Below W.heap.size W W') : ToS w m rd rs g W' := by
  obtain ⟨l, h1, h2⟩ := h.o
  exact ⟨nrow_below h.r hb, nrow_below h.u hb, ⟨l, h1, nrow_below h2 hb⟩, h.old.trans (hb.mono h.old.size)⟩
set_option maxRecDepth 100000 in
set_option maxHeartbeats 8000000 in
theorem told_any (m : Mt.M) (rd rs : Int) (w : World) :
    Calls Tryd.prog 69 #[rgV m rd rs] w fun e w' => TdEnd w.heap.size m rd rs e w' ∧ Below w.heap.size w w' := by
  obtain ⟨W, hW⟩ : ∃ W, W = (w.alloc (.cells #[.int .i64 m.d, .int .i64 m.u, .int .i64 m.day, .int .i64 m.s, .int .i64 rd, .int .i64 rs] 121)).alloc (.cells #[.int .i64 0, .int .i64 0, .int .i64 0, .int .i64 0, .slice none 0 0, .int .i64 0] 30) := ⟨_, rfl⟩
  have HR : Hid (RgS w m rd rs W) := by show RgS _ _ _ _ _; rw [hW]; exact (RgS.new w m rd rs).below (nbel_alloc _ _)
  have HO : Hid (W.rowIs (w.heap.size + 1) 30 6 (rowN (muL Mt.none none 0 0 0))) := by show W.rowIs _ _ _ _; rw [hW]; exact rowN_alloc' (by simp) _ _
  have HW := Lib.hid hW
  clear hW
  go_enter Tryd.func69, Tryd.ntmps69
  go_wp2_with fail
  rw [← HW.out]
  clear HW
  refine (validate_any m rd rs _).mono ?_
  rintro e w1 ⟨he, hb⟩
  have HR1 := Lib.hid (HR.out.below hb)
  have HO1 := Lib.hid (nrow_below HO.out hb)
  clear hb HR HO
  obtain ⟨⟨a0, a1, a2, a3, a4, a5⟩, _⟩ := rowN6 HR1.out.r
  rcases he with ⟨hk, rfl⟩ | ⟨hk, y, rfl, hy⟩
  case inr =>
    have HK := Lib.hid hk
    have HY := Lib.hid hy
    obtain ⟨⟨o0, o1, o2, o3, o4, o5⟩, z0, z1, z2, z3, z4, z5⟩ := rowN6 HO1.out
    obtain ⟨Z, hZ⟩ : ∃ Z, Z = ((((((w1).setCell ⟨w.heap.size + 1, 0, none⟩ (.int .i64 0)).setCell ⟨w.heap.size + 1, 1, none⟩ (.int .i64 0)).setCell ⟨w.heap.size + 1, 2, none⟩ (.int .i64 0)).setCell ⟨w.heap.size + 1, 3, none⟩ (.int .i64 0)).setCell ⟨w.heap.size + 1, 4, none⟩ (.slice none 0 0)).setCell ⟨w.heap.size + 1, 5, none⟩ (.int .i64 0) := ⟨_, rfl⟩
    have HZR : Hid (Z.rowIs (w.heap.size + 1) 30 6 (rowN (muL Mt.none none 0 0 0))) := by show Z.rowIs _ _ _ _; rw [hZ]; exact mput6 HO1.out rfl (.int .i64 0) (.int .i64 0) (.int .i64 0) (.int .i64 0) (.slice none 0 0) (.int .i64 0)
    have HZB : Hid (Below w.heap.size w Z) := by show Below _ _ _; rw [hZ]; exact mbel6 (g := w.heap.size + 1) HR1.out.old (by omega) (.int .i64 0) (.int .i64 0) (.int .i64 0) (.int .i64 0) (.slice none 0 0) (.int .i64 0)
    have HZ := Lib.hid hZ
    clear hk hy hZ
    go_wp2_with fail
    rw [← HZ.out]
    obtain ⟨⟨p0, p1, p2, p3, p4, p5⟩, _⟩ := rowN6 HZR.out
    exact bodyPost_ret (v := .tuple #[muV Mt.none none 0 0 0, .iface 83 y]) (by simp only [results, Tryd.results69]; simp [go_sem, p0, p1, p2, p3, p4, p5, Mt.none]) rfl ⟨Or.inl ⟨HK.out, y, rfl, HY.out⟩, HZB.out⟩
  have H := Lib.hid hk
  clear hk
  go_wp2_with fail
  refine (useOne_any m rd rs H.out _).mono ?_
  rintro e w2 ⟨rfl, hb⟩
  have HR2 := Lib.hid (HR1.out.below hb)
  have HO2 := Lib.hid (nrow_below HO1.out hb)
  clear hb HR1 HO1 a0 a1 a2 a3 a4 a5
  obtain ⟨g5, hg5⟩ : ∃ g, g = w2.heap.size := ⟨_, rfl⟩
  have HG5 : Hid (w.heap.size + 1 < g5) := by show w.heap.size + 1 < g5; rw [hg5]; exact HO2.out.lt
  obtain ⟨W3, hW3⟩ : ∃ W3, W3 = w2.alloc (.cells #[.int .i64 m.day, .int .i64 rd, .int .i64 (Mt.water m rd rs), .int .i64 (Mt.kind m rd rs)] 33) := ⟨_, rfl⟩
  have HS3 : Hid (ToS w m rd rs g5 W3) := by
    show ToS _ _ _ _ _ _
    rw [hW3, hg5]
    exact ⟨nrow_below HR2.out.r (nbel_alloc _ _), rowN_alloc w2 (useL m.day rd (Mt.water m rd rs) (Mt.kind m rd rs)) _, ⟨_, rfl, nrow_below HO2.out (nbel_alloc _ _)⟩, HR2.out.old.alloc HR2.out.old.size _⟩
  have HW3 := Lib.hid hW3
  have HGE5 := Lib.hid hg5
  clear hW3 HR2 HO2 hg5
  go_wp2_with fail
  rw [← HW3.out, ← HGE5.out]
  clear HW3
  refine wp_region_held_drew (S := ToS w m rd rs g5) (by kernel_rfl) (HS3.out.below (Below.refl _ _).drew) (fun hHeld => ?_)
  clear HS3 HGE5
  generalize W3.drew = Wd at hHeld ⊢
  refine take_do (i := 0) (v := (rgV m rd rs)) rfl (by kernel_rfl) (by kernel_rfl) (by kernel_rfl) (fun _ _ _ h => h) (by rfl) ?_ (by assumption) ?_
  · intro w hSw
    obtain ⟨⟨a0, a1, a2, a3, a4, a5⟩, _⟩ := rowN6 hSw.r; obtain ⟨⟨b0, b1, b2, b3⟩, _⟩ := rowN4 hSw.u
    go_simp
  simp only [Act.put, List.setIfInBounds_toArray, List.set_cons_zero, List.set_cons_succ]
  refine take_do (i := 1) (v := (useV m.day rd (Mt.water m rd rs) (Mt.kind m rd rs))) rfl (by kernel_rfl) (by kernel_rfl) (by kernel_rfl) (fun _ _ _ h => h) (by rfl) ?_ (by assumption) ?_
  · intro w hSw
    obtain ⟨⟨a0, a1, a2, a3, a4, a5⟩, _⟩ := rowN6 hSw.r; obtain ⟨⟨b0, b1, b2, b3⟩, _⟩ := rowN4 hSw.u
    go_simp
  simp only [Act.put, List.setIfInBounds_toArray, List.set_cons_zero, List.set_cons_succ]
  refine take_do (i := 3) (v := (useV m.day rd (Mt.water m rd rs) (Mt.kind m rd rs))) rfl (by kernel_rfl) (by kernel_rfl) (by kernel_rfl) (fun _ _ _ h => h) (by rfl) ?_ (by assumption) ?_
  · intro w hSw
    obtain ⟨⟨a0, a1, a2, a3, a4, a5⟩, _⟩ := rowN6 hSw.r; obtain ⟨⟨b0, b1, b2, b3⟩, _⟩ := rowN4 hSw.u
    go_simp
  simp only [Act.put, List.setIfInBounds_toArray, List.set_cons_zero, List.set_cons_succ]
  obtain ⟨X, hX⟩ : ∃ X, X = Mt.next m rd rs := ⟨_, rfl⟩
  have HX := Lib.hid hX
  clear hX
  refine wpAnyH_ready (rs := [2, 4]) (by kernel_rfl) (by simp) (AllReadyH.cons (at_drop (i := 2) rfl) (fun K2 hK => ?_) (AllReadyH.cons (at_drop (i := 4) rfl) (fun K2 hK => ?_) (AllReadyH.nil)))
  · go_simp
    refine (behindOne_any m rd rs _ H.out).mono ?_
    rintro e w4 ⟨rfl, hb⟩
    rw [← HX.out]
    go_wp2_with fail
    refine hK.out _ _ (hHeld.below hb) (fun hHeld2 => ?_)
    clear hK hHeld hb
    have hHeld := hHeld2
    clear hHeld2
    refine take_call (i := 4) rfl (by kernel_rfl) (fun K2 hK => ?_)
    obtain ⟨Wm, hWm⟩ : ∃ Wm, Wm = w4.alloc (.cells #[.int .i64 m.day, .int .i64 rd, .int .i64 (Mt.water m rd rs), .int .i64 (Mt.kind m rd rs)] 33) := ⟨_, rfl⟩
    obtain ⟨gs, hgs⟩ : ∃ gs, gs = w4.heap.size := ⟨_, rfl⟩
    have HGE : Hid (w.heap.size + 1 < gs) := by show w.heap.size + 1 < gs; rw [hgs]; obtain ⟨l, _, hl⟩ := hHeld.o; exact hl.lt
    have HG : Hid (IsBlk 33 gs (1 * 4) (Mt.use m (Mt.rd1 rd rs)) Wm) := by show IsBlk _ _ _ _ _; rw [hWm, hgs]; exact use_blk (rowN_alloc w4 (useL m.day rd (Mt.water m rd rs) (Mt.kind m rd rs)) _)
    have hbm : Below w4.heap.size w4 Wm := by rw [hWm]; exact nbel_alloc _ _
    go_simp
    rw [← hWm, ← hgs]
    refine hK.out _ _ (hHeld.below hbm) (fun hHeld2 => ?_)
    clear hK hHeld hbm hWm hgs
    have hHeld := hHeld2
    clear hHeld2
    refine take_do (i := 5) (v := (.agg #[.int .i64 X.d, .int .i64 X.u, .int .i64 X.day, .int .i64 X.s, .slice (some ⟨gs, 0, none⟩) 1 1, .int .i64 0])) rfl (by kernel_rfl) (by kernel_rfl) (by kernel_rfl) (fun _ _ _ h => h) (by rfl) ?_ (by assumption) ?_
    · intro w hSw
      skip
      go_simp
    simp only [Act.put, List.setIfInBounds_toArray, List.set_cons_zero, List.set_cons_succ]
    refine take_call (i := 6) rfl (by kernel_rfl) (fun K2 hK => ?_)
    obtain ⟨l, hll, hrl⟩ := hHeld.o
    match l, hll, hrl with
    | [l0, l1, l2, l3, l4, l5], hll, hrl =>
    obtain ⟨⟨o0, o1, o2, o3, o4, o5⟩, z0, z1, z2, z3, z4, z5⟩ := rowN6 hrl
    obtain ⟨Z, hZ⟩ : ∃ Z, Z = ((((((Wm).setCell ⟨w.heap.size + 1, 0, none⟩ (.int .i64 X.d)).setCell ⟨w.heap.size + 1, 1, none⟩ (.int .i64 X.u)).setCell ⟨w.heap.size + 1, 2, none⟩ (.int .i64 X.day)).setCell ⟨w.heap.size + 1, 3, none⟩ (.int .i64 X.s)).setCell ⟨w.heap.size + 1, 4, none⟩ (.slice (some ⟨gs, 0, none⟩) 1 1)).setCell ⟨w.heap.size + 1, 5, none⟩ (.int .i64 0) := ⟨_, rfl⟩
    have HZR : Hid (Z.rowIs (w.heap.size + 1) 30 6 (rowN [.int .i64 X.d, .int .i64 X.u, .int .i64 X.day, .int .i64 X.s, .slice (some ⟨gs, 0, none⟩) 1 1, .int .i64 0])) := by show Z.rowIs _ _ _ _; rw [hZ]; exact mput6 hrl rfl (.int .i64 X.d) (.int .i64 X.u) (.int .i64 X.day) (.int .i64 X.s) (.slice (some ⟨gs, 0, none⟩) 1 1) (.int .i64 0)
    have HZS : Hid (ToS w m rd rs g5 Z) := by
      show ToS _ _ _ _ _ _
      rw [hZ]
      exact ⟨mrow6 hHeld.r (by omega) (.int .i64 X.d) (.int .i64 X.u) (.int .i64 X.day) (.int .i64 X.s) (.slice (some ⟨gs, 0, none⟩) 1 1) (.int .i64 0), mrow6 hHeld.u (by have := HG5.out; omega) (.int .i64 X.d) (.int .i64 X.u) (.int .i64 X.day) (.int .i64 X.s) (.slice (some ⟨gs, 0, none⟩) 1 1) (.int .i64 0), ⟨_, rfl, mput6 hrl rfl (.int .i64 X.d) (.int .i64 X.u) (.int .i64 X.day) (.int .i64 X.s) (.slice (some ⟨gs, 0, none⟩) 1 1) (.int .i64 0)⟩, mbel6 (g := w.heap.size + 1) hHeld.old (by omega) (.int .i64 X.d) (.int .i64 X.u) (.int .i64 X.day) (.int .i64 X.s) (.slice (some ⟨gs, 0, none⟩) 1 1) (.int .i64 0)⟩
    have HZG : Hid (IsBlk 33 gs (1 * 4) (Mt.use m (Mt.rd1 rd rs)) Z) := by
      show IsBlk _ _ _ _ _
      rw [hZ]
      exact HG.out.block (mblk6 (by have := HGE.out; omega) (.int .i64 X.d) (.int .i64 X.u) (.int .i64 X.day) (.int .i64 X.s) (.slice (some ⟨gs, 0, none⟩) 1 1) (.int .i64 0))
    have HZ := Lib.hid hZ
    clear hZ HG hrl
    go_simp
    rw [← HZ.out]
    refine hK.out _ _ HZS.out (fun hHeld2 => ?_)
    clear hK hHeld HZ o0 o1 o2 o3 o4 o5 z0 z1 z2 z3 z4 z5
    have hHeld := hHeld2
    clear hHeld2
    refine take_do (i := 7) (v := .nilIface) rfl (by kernel_rfl) (by kernel_rfl) (by kernel_rfl) (fun _ _ _ h => h) (by rfl) ?_ (by assumption) ?_
    · intro w hSw
      skip
      go_simp
    simp only [Act.put, List.setIfInBounds_toArray, List.set_cons_zero, List.set_cons_succ]
    refine wpAnyH_done (by kernel_rfl) ?_ _
    obtain ⟨⟨o0, o1, o2, o3, o4, o5⟩, _⟩ := rowN6 HZR.out
    have HOLD := Lib.hid hHeld.old
    clear hHeld HZS
    go_wp2_with fail
    exact bodyPost_ret (v := .tuple #[.agg #[.int .i64 X.d, .int .i64 X.u, .int .i64 X.day, .int .i64 X.s, .slice (some ⟨gs, 0, none⟩) 1 1, .int .i64 0], .nilIface]) (by simp only [results, Tryd.results69]; simp [go_sem, o0, o1, o2, o3, o4, o5]) rfl ⟨Or.inr ⟨H.out, gs, by rw [HX.out], by have := HGE.out; omega, HZG.out⟩, HOLD.out⟩
  · obtain ⟨Wn, hWn⟩ : ∃ Wn, Wn = Wd.alloc (.cells #[.int .i64 m.day, .int .i64 rd, .int .i64 (Mt.water m rd rs), .int .i64 (Mt.kind m rd rs)] 33) := ⟨_, rfl⟩
    obtain ⟨gs, hgs⟩ : ∃ gs, gs = Wd.heap.size := ⟨_, rfl⟩
    have HGE : Hid (w.heap.size + 1 < gs) := by show w.heap.size + 1 < gs; rw [hgs]; obtain ⟨l, _, hl⟩ := hHeld.o; exact hl.lt
    have HG0 : Hid (IsBlk 33 gs (1 * 4) (Mt.use m (Mt.rd1 rd rs)) Wn) := by show IsBlk _ _ _ _ _; rw [hWn, hgs]; exact use_blk (rowN_alloc Wd (useL m.day rd (Mt.water m rd rs) (Mt.kind m rd rs)) _)
    have hbm : Below Wd.heap.size Wd Wn := by rw [hWn]; exact nbel_alloc _ _
    go_simp
    rw [← hWn, ← hgs]
    refine hK.out _ _ (hHeld.below hbm) (fun hHeld2 => ?_)
    clear hK hHeld hbm hWn hgs
    have hHeld := hHeld2
    clear hHeld2
    refine take_call (i := 2) rfl (by kernel_rfl) (fun K2 hK => ?_)
    go_simp
    refine (behindOne_any m rd rs _ H.out).mono ?_
    rintro e Wm ⟨rfl, hb⟩
    rw [← HX.out]
    have HG := Lib.hid (HG0.out.below hb)
    go_wp2_with fail
    refine hK.out _ _ (hHeld.below hb) (fun hHeld2 => ?_)
    clear hK hHeld hb HG0
    have hHeld := hHeld2
    clear hHeld2
    refine take_do (i := 5) (v := (.agg #[.int .i64 X.d, .int .i64 X.u, .int .i64 X.day, .int .i64 X.s, .slice (some ⟨gs, 0, none⟩) 1 1, .int .i64 0])) rfl (by kernel_rfl) (by kernel_rfl) (by kernel_rfl) (fun _ _ _ h => h) (by rfl) ?_ (by assumption) ?_
    · intro w hSw
      skip
      go_simp
    simp only [Act.put, List.setIfInBounds_toArray, List.set_cons_zero, List.set_cons_succ]
    refine take_call (i := 6) rfl (by kernel_rfl) (fun K2 hK => ?_)
    obtain ⟨l, hll, hrl⟩ := hHeld.o
    match l, hll, hrl with
    | [l0, l1, l2, l3, l4, l5], hll, hrl =>
    obtain ⟨⟨o0, o1, o2, o3, o4, o5⟩, z0, z1, z2, z3, z4, z5⟩ := rowN6 hrl
    obtain ⟨Z, hZ⟩ : ∃ Z, Z = ((((((Wm).setCell ⟨w.heap.size + 1, 0, none⟩ (.int .i64 X.d)).setCell ⟨w.heap.size + 1, 1, none⟩ (.int .i64 X.u)).setCell ⟨w.heap.size + 1, 2, none⟩ (.int .i64 X.day)).setCell ⟨w.heap.size + 1, 3, none⟩ (.int .i64 X.s)).setCell ⟨w.heap.size + 1, 4, none⟩ (.slice (some ⟨gs, 0, none⟩) 1 1)).setCell ⟨w.heap.size + 1, 5, none⟩ (.int .i64 0) := ⟨_, rfl⟩
    have HZR : Hid (Z.rowIs (w.heap.size + 1) 30 6 (rowN [.int .i64 X.d, .int .i64 X.u, .int .i64 X.day, .int .i64 X.s, .slice (some ⟨gs, 0, none⟩) 1 1, .int .i64 0])) := by show Z.rowIs _ _ _ _; rw [hZ]; exact mput6 hrl rfl (.int .i64 X.d) (.int .i64 X.u) (.int .i64 X.day) (.int .i64 X.s) (.slice (some ⟨gs, 0, none⟩) 1 1) (.int .i64 0)
    have HZS : Hid (ToS w m rd rs g5 Z) := by
      show ToS _ _ _ _ _ _
      rw [hZ]
      exact ⟨mrow6 hHeld.r (by omega) (.int .i64 X.d) (.int .i64 X.u) (.int .i64 X.day) (.int .i64 X.s) (.slice (some ⟨gs, 0, none⟩) 1 1) (.int .i64 0), mrow6 hHeld.u (by have := HG5.out; omega) (.int .i64 X.d) (.int .i64 X.u) (.int .i64 X.day) (.int .i64 X.s) (.slice (some ⟨gs, 0, none⟩) 1 1) (.int .i64 0), ⟨_, rfl, mput6 hrl rfl (.int .i64 X.d) (.int .i64 X.u) (.int .i64 X.day) (.int .i64 X.s) (.slice (some ⟨gs, 0, none⟩) 1 1) (.int .i64 0)⟩, mbel6 (g := w.heap.size + 1) hHeld.old (by omega) (.int .i64 X.d) (.int .i64 X.u) (.int .i64 X.day) (.int .i64 X.s) (.slice (some ⟨gs, 0, none⟩) 1 1) (.int .i64 0)⟩
    have HZG : Hid (IsBlk 33 gs (1 * 4) (Mt.use m (Mt.rd1 rd rs)) Z) := by
      show IsBlk _ _ _ _ _
      rw [hZ]
      exact HG.out.block (mblk6 (by have := HGE.out; omega) (.int .i64 X.d) (.int .i64 X.u) (.int .i64 X.day) (.int .i64 X.s) (.slice (some ⟨gs, 0, none⟩) 1 1) (.int .i64 0))
    have HZ := Lib.hid hZ
    clear hZ HG hrl
    go_simp
    rw [← HZ.out]
    refine hK.out _ _ HZS.out (fun hHeld2 => ?_)
    clear hK hHeld HZ o0 o1 o2 o3 o4 o5 z0 z1 z2 z3 z4 z5
    have hHeld := hHeld2
    clear hHeld2
    refine take_do (i := 7) (v := .nilIface) rfl (by kernel_rfl) (by kernel_rfl) (by kernel_rfl) (fun _ _ _ h => h) (by rfl) ?_ (by assumption) ?_
    · intro w hSw
      skip
      go_simp
    simp only [Act.put, List.setIfInBounds_toArray, List.set_cons_zero, List.set_cons_succ]
    refine wpAnyH_done (by kernel_rfl) ?_ _
    obtain ⟨⟨o0, o1, o2, o3, o4, o5⟩, _⟩ := rowN6 HZR.out
    have HOLD := Lib.hid hHeld.old
    clear hHeld HZS
    go_wp2_with fail
    exact bodyPost_ret (v := .tuple #[.agg #[.int .i64 X.d, .int .i64 X.u, .int .i64 X.day, .int .i64 X.s, .slice (some ⟨gs, 0, none⟩) 1 1, .int .i64 0], .nilIface]) (by simp only [results, Tryd.results69]; simp [go_sem, o0, o1, o2, o3, o4, o5]) rfl ⟨Or.inr ⟨H.out, gs, by rw [HX.out], by have := HGE.out; omega, HZG.out⟩, HOLD.out⟩
set_option maxRecDepth 100000 in
set_option maxHeartbeats 4000000 in
theorem tellMt_ok (X : Mt.M) (a : Option Addr) (n c : Nat) (x : Int) (w : World) :
    Calls Tryd.prog 33 #[muV X a n c x, .nilIface] w fun e w' => e = .returned (muV X a n c x) ∧ Below w.heap.size w w' := by
  obtain ⟨W, hW⟩ : ∃ W, W = (w.alloc (.cells #[.int .i64 X.d, .int .i64 X.u, .int .i64 X.day, .int .i64 X.s, .slice a n c, .int .i64 x] 30)).alloc (.cells #[.int .i64 0, .int .i64 0, .int .i64 0, .int .i64 0, .slice none 0 0, .int .i64 0] 30) := ⟨_, rfl⟩
  have HB : Hid (Below w.heap.size w W) := by show Below _ _ _; rw [hW]; exact (nbel_alloc _ _).alloc (by simp) _
  have HR : Hid (W.rowIs w.heap.size 30 6 (rowN (muL X a n c x))) := by show W.rowIs _ _ _ _; rw [hW]; exact nrow_below (rowN_alloc w _ _) (nbel_alloc _ _)
  have HO : Hid (W.rowIs (w.heap.size + 1) 30 6 (rowN (muL Mt.none none 0 0 0))) := by show W.rowIs _ _ _ _; rw [hW]; exact rowN_alloc' (by simp) _ _
  obtain ⟨⟨x0, x1, x2, x3, x4, x5⟩, _⟩ := rowN6 HR.out
  obtain ⟨⟨o0, o1, o2, o3, o4, o5⟩, z0, z1, z2, z3, z4, z5⟩ := rowN6 HO.out
  have hol := HO.out.lt
  rw [hW] at x0 x1 x2 x3 x4 x5 o0 o1 o2 o3 o4 o5 z0 z1 z2 z3 z4 z5 hol
  have HW := Lib.hid hW
  clear hW
  go_enter Tryd.func33, Tryd.ntmps33
  go_wp2_with fail
  exact bodyPost_ret (v := muV X a n c x) (by simp only [results, Tryd.results33]; simp [go_sem]) rfl ⟨rfl, (nbel_alloc _ _).alloc (by simp) _⟩
set_option maxRecDepth 100000 in
set_option maxHeartbeats 4000000 in
theorem tellMt_bad (X : Mt.M) (a : Option Addr) (n c : Nat) (x : Int) (yy : Value) (c' : Int) (w : World) (hy : AsF yy c') (hg : Et w) :
    Calls Tryd.prog 33 #[muV X a n c x, .iface 83 yy] w fun e w' => e = .returned (muV Mt.none none 0 0 c') ∧ Below w.heap.size w w' := by
  obtain ⟨W, hW⟩ : ∃ W, W = (w.alloc (.cells #[.int .i64 X.d, .int .i64 X.u, .int .i64 X.day, .int .i64 X.s, .slice a n c, .int .i64 x] 30)).alloc (.cells #[.int .i64 0, .int .i64 0, .int .i64 0, .int .i64 0, .slice none 0 0, .int .i64 0] 30) := ⟨_, rfl⟩
  have HB : Hid (Below w.heap.size w W) := by show Below _ _ _; rw [hW]; exact (nbel_alloc _ _).alloc (by simp) _
  have HO : Hid (W.rowIs (w.heap.size + 1) 30 6 (rowN (muL Mt.none none 0 0 0))) := by show W.rowIs _ _ _ _; rw [hW]; exact rowN_alloc' (by simp) _ _
  have HW := Lib.hid hW
  have HET := Lib.hid (hg.below HB.out)
  have HY := Lib.hid hy
  clear hW hg hy
  go_enter Tryd.func33, Tryd.ntmps33
  go_wp2_with fail
  rw [← HW.out]
  clear HW
  refine (codeOf_any yy c' HY.out _ HET.out).mono ?_
  rintro e w1 ⟨rfl, hb⟩
  have HO1 := Lib.hid (nrow_below HO.out hb)
  have HB1 : Hid (Below w.heap.size w w1) := HB.out.trans (hb.mono HB.out.size)
  clear hb HO HB
  obtain ⟨⟨o0, o1, o2, o3, o4, o5⟩, z0, z1, z2, z3, z4, z5⟩ := rowN6 HO1.out
  have hol := HO1.out.lt
  obtain ⟨Z, hZ⟩ : ∃ Z, Z = ((((((w1).setCell ⟨w.heap.size + 1, 0, none⟩ (.int .i64 0)).setCell ⟨w.heap.size + 1, 1, none⟩ (.int .i64 0)).setCell ⟨w.heap.size + 1, 2, none⟩ (.int .i64 0)).setCell ⟨w.heap.size + 1, 3, none⟩ (.int .i64 0)).setCell ⟨w.heap.size + 1, 4, none⟩ (.slice none 0 0)).setCell ⟨w.heap.size + 1, 5, none⟩ (.int .i64 c') := ⟨_, rfl⟩
  have HZR : Hid (Z.rowIs (w.heap.size + 1) 30 6 (rowN (muL Mt.none none 0 0 c'))) := by show Z.rowIs _ _ _ _; rw [hZ]; exact mput6 HO1.out rfl (.int .i64 0) (.int .i64 0) (.int .i64 0) (.int .i64 0) (.slice none 0 0) (.int .i64 c')
  have HZB : Hid (Below w.heap.size w Z) := by show Below _ _ _; rw [hZ]; exact mbel6 (g := w.heap.size + 1) HB1.out (by omega) (.int .i64 0) (.int .i64 0) (.int .i64 0) (.int .i64 0) (.slice none 0 0) (.int .i64 c')
  have HZ := Lib.hid hZ
  clear hZ
  go_wp2_with fail
  rw [← HZ.out]
  obtain ⟨⟨p0, p1, p2, p3, p4, p5⟩, _⟩ := rowN6 HZR.out
  exact bodyPost_ret (v := muV Mt.none none 0 0 c') (by simp only [results, Tryd.results33]; simp [go_sem, p0, p1, p2, p3, p4, p5, Mt.none]) rfl ⟨rfl, HZB.out⟩
/-- A list of uses that an answer is: its own memory, or none. -/
def UsOwn (B N : Nat) (a : Option Addr) (c : Nat) (f : Nat → Int) (W : World) : Prop := (a = none ∧ N = 0 ∧ c = 0) ∨ ∃ g, a = some ⟨g, 0, none⟩ ∧ B ≤ g ∧ IsBlk 33 g (N * 4) f W
/-- How an answer is told. -/
def MuEnd (B : Nat) (ok : Prop) (x : Int) (X : Mt.M) (n : Nat) (U : Nat → Int) (e : Ending) (W : World) : Prop :=
  (¬ ok ∧ e = .returned (muV Mt.none none 0 0 x)) ∨ (ok ∧ ∃ a c, e = .returned (muV X a n c 0) ∧ UsOwn B n a c U W)
end Go.Proofs.YtmejmpdljckfgaaDoor
