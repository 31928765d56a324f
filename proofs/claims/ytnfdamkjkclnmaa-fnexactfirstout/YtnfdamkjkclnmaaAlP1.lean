/-
  The panel: sync.Once of one goroutine, an alarm of it takes a value.
-/
import Derived.Test.YtnfdamkjkclnmaaMuSh
import Derived.Conc.MuLone
import Derived.Laws.LoneSync
import Derived.RegionCalls
import Derived.Defers
import Derived.Test.YtnfdamkjkclnmaaAlI2
namespace Go.Proofs.Ytnfdamkjkclnmaa
open Go.RowKit Go.Deep Go.MuLone

theorem rowN5p {w : World} {g : Nat} {t : TypeId} {x0 x1 x2 x3 x4 : Value} (h : w.rowIs g t 5 (rowN [x0, x1, x2, x3, x4])) : (w.cell? ⟨g, 0, none⟩ = some x0 ∧ w.cell? ⟨g, 1, none⟩ = some x1 ∧ w.cell? ⟨g, 2, none⟩ = some x2 ∧ w.cell? ⟨g, 3, none⟩ = some x3 ∧ w.cell? ⟨g, 4, none⟩ = some x4) ∧ (w.frozen? ⟨g, 0, none⟩ = false ∧ w.frozen? ⟨g, 1, none⟩ = false ∧ w.frozen? ⟨g, 2, none⟩ = false ∧ w.frozen? ⟨g, 3, none⟩ = false ∧ w.frozen? ⟨g, 4, none⟩ = false) :=
  ⟨⟨h.cell (i := 0) (by omega), h.cell (i := 1) (by omega), h.cell (i := 2) (by omega), h.cell (i := 3) (by omega), h.cell (i := 4) (by omega)⟩, ⟨h.frozen 0, h.frozen 1, h.frozen 2, h.frozen 3, h.frozen 4⟩⟩
set_option maxHeartbeats 800000 in
theorem obload_any (g i : Nat) (d : Int) (w : World) (h : w.cell? ⟨g, i, none⟩ = some (.int .u32 d)) :
    Calls Try.prog 66 #[.pointer (some ⟨g, i, none⟩)] w fun e w' => e = .returned (.bool (d != 0)) ∧ w' = w := by
  have hl := run_call_load (P := Try.prog) Try.func69 (by kernel_rfl) (by kernel_rfl) (by kernel_rfl) .u32 (by kernel_rfl) h
  go_enter Try.func66, Try.ntmps66
  go_wp2
  go_ret
  exact ⟨rfl, rfl⟩
set_option maxHeartbeats 800000 in
theorem ostore_deferred (a : Addr) (x : Value) (u : FrameMode) (w : World) (hc : w.cell? a = some x) (hz : w.frozen? a = false) :
    CallsD Try.prog 72 #[.pointer (some a), .bool true] u w fun e u' w' => u' = u ∧ (e = .returned (.tuple #[]) ∧ w' = w.drew.setCell a (.int .u32 1)) := by
  have hc' : w.drew.cell? a = some x := by go_simp
  have hz' : w.drew.frozen? a = false := by go_simp
  have hst := run_call_store (P := Try.prog) Try.func75 (by kernel_rfl) (by kernel_rfl) (by kernel_rfl) (by kernel_rfl) (k := .u32) (y := 1) hc' hz'
  go_enter_d Try.func72, Try.ntmps72
  go_wp2
  go_region_calls
  all_goals (go_end0; exact ⟨rfl, rfl⟩)
/-- The panel's cells. -/
def paL (q N c : Nat) (d s : Int) (f : Int) : List Value := [.slice (some ⟨q, 0, none⟩) N c, .int .u32 d, .int .i32 s, .int .u32 0, .int .i64 f]
/-- Nothing but block p has changed: as Only. -/
theorem only_set (p : Nat) (w : World) (i : Nat) (x : Value) : Only p w (w.setCell ⟨p, i, none⟩ x) := (Only.refl p w).set i x
set_option maxRecDepth 100000 in
set_option maxHeartbeats 4000000 in
theorem pclose_any (p q N c b3 b4 : Nat) (pl : Nat) (d s f : Int) (w : World) (h : w.rowIs p 80 5 (rowN (paL q N c d s f))) (h3 : w.cell? ⟨b3, 0, none⟩ = some (.pointer (some ⟨p, 0, none⟩))) (h4 : w.cell? ⟨b4, 0, none⟩ = some (.int .i64 (pl : Int))) :
    Calls Try.prog 61 #[.pointer (some ⟨b4, 0, none⟩), .pointer (some ⟨b3, 0, none⟩)] w fun e w' => e = .returned (.tuple #[]) ∧ w' = w.setCell ⟨p, 4, none⟩ (.int .i64 (pl : Int)) := by
  obtain ⟨⟨c0, c1, c2, c3, c4⟩, f0, f1, f2, f3, f4⟩ := rowN5p h
  have hl := h.lt
  clear h
  go_enter Try.func61, Try.ntmps61
  go_wp2_with fail
  exact bodyPost_end (v := .tuple #[]) (by simp [results, Try.results61, go_sem]) rfl ⟨rfl, rfl⟩
set_option maxRecDepth 100000 in
set_option maxHeartbeats 4000000 in
theorem oslow_any (p q N c b3 b4 : Nat) (pl : Nat) (f : Int) (w : World) (h : w.rowIs p 80 5 (rowN (paL q N c 0 0 f))) (h3 : w.cell? ⟨b3, 0, none⟩ = some (.pointer (some ⟨p, 0, none⟩))) (h4 : w.cell? ⟨b4, 0, none⟩ = some (.int .i64 (pl : Int))) :
    Calls Try.prog 67 #[.pointer (some ⟨p, 1, none⟩), (.func (.func 61) #[] #[.pointer (some ⟨b4, 0, none⟩), .pointer (some ⟨b3, 0, none⟩)])] w fun e w' => e = .returned (.tuple #[]) ∧ w'.rowIs p 80 5 (rowN (paL q N c 1 0 (pl : Int))) ∧ Only p w w' := by
  obtain ⟨⟨c0, c1, c2, c3, c4⟩, f0, f1, f2, f3, f4⟩ := rowN5p h
  have hnot : ∀ (x : Bool) (w : World), (Op.unary .not (.bool x)).run Try.prog w = .ok (.bool (!x)) w := fun _ _ => rfl
  go_enter_defers Try.func67, Try.ntmps67
  go_wp2_with fail
  refine (lock_free Try.muLib ⟨p, 2, none⟩ _ c2 f2).mono ?_
  rintro e V ⟨rfl, hV⟩
  have RV : Hid (V.rowIs p 80 5 (rowN (paL q N c 0 1 f))) := by show World.rowIs _ _ _ _ _; rw [hV]; exact rowN_put h 2 (.int .i32 1) (by simp [paL])
  have OV : Hid (Only p w V) := by show Only _ _ _; rw [hV]; exact only_set p w 2 _
  have H3 : Hid (V.cell? ⟨b3, 0, none⟩ = some (.pointer (some ⟨p, 0, none⟩))) := by show _ = _; rw [hV, World.cell?_setCell_other _ _ _ _ (by simp)]; exact h3
  have H4 : Hid (V.cell? ⟨b4, 0, none⟩ = some (.int .i64 (pl : Int))) := by show _ = _; rw [hV, World.cell?_setCell_other _ _ _ _ (by simp)]; exact h4
  clear hV c0 c1 c2 c3 c4 f0 f1 f2 f3 f4 h h3 h4
  obtain ⟨⟨c0, c1, c2, c3, c4⟩, f0, f1, f2, f3, f4⟩ := rowN5p RV.out
  go_wp2_with fail
  refine (obload_any p 1 0 _ c1).mono ?_
  rintro e V2 ⟨rfl, hV2⟩
  rw [hV2]
  clear hV2 V2
  go_wp2_with fail
  refine (pclose_any p q N c b3 b4 pl 0 1 f V RV.out H3.out H4.out).mono ?_
  rintro e V3 ⟨rfl, hV3⟩
  have R3 : Hid (V3.rowIs p 80 5 (rowN (paL q N c 0 1 (pl : Int)))) := by show World.rowIs _ _ _ _ _; rw [hV3]; exact rowN_put RV.out 4 (.int .i64 (pl : Int)) (by simp [paL])
  have O3 : Hid (Only p w V3) := by show Only _ _ _; rw [hV3]; exact OV.out.more (only_set p V 4 _)
  clear hV3 c0 c1 c2 c3 c4 f0 f1 f2 f3 f4 RV OV H3 H4
  obtain ⟨⟨c0, c1, c2, c3, c4⟩, f0, f1, f2, f3, f4⟩ := rowN5p R3.out
  go_wp2_with fail
  refine leaves_cons (f := 72) (args := #[.pointer (some ⟨p, 1, none⟩), .bool true]) (by simp) (by simp [go_sem]) ?_
  refine (ostore_deferred ⟨p, 1, none⟩ (.int .u32 0) .returning _ c1 f1).mono ?_
  rintro e u' V4 ⟨rfl, rfl, hV4⟩
  have R4 : Hid (V4.rowIs p 80 5 (rowN (paL q N c 1 1 (pl : Int)))) := by show World.rowIs _ _ _ _ _; rw [hV4]; exact rowN_put (R3.out.of_block rfl) 1 (.int .u32 1) (by simp [paL])
  have O4 : Hid (Only p w V4) := by show Only _ _ _; rw [hV4]; exact (O3.out.bel (Below.refl _ _).drew).more (only_set p V3.drew 1 _)
  clear hV4 c0 c1 c2 c3 c4 f0 f1 f2 f3 f4 R3 O3
  obtain ⟨⟨c0, c1, c2, c3, c4⟩, f0, f1, f2, f3, f4⟩ := rowN5p R4.out
  refine leaves_cons (f := 71) (args := #[.pointer (some ⟨p, 2, none⟩)]) (by simp [settle]) (by simp [go_sem]) ?_
  refine (unlock_deferred Try.muLib ⟨p, 2, none⟩ _ _ c2 f2).mono ?_
  rintro e u' V5 ⟨rfl, rfl, hV5⟩
  have R5 : Hid (V5.rowIs p 80 5 (rowN (paL q N c 1 0 (pl : Int)))) := by show World.rowIs _ _ _ _ _; rw [hV5]; exact rowN_put R4.out 2 (.int .i32 0) (by simp [paL])
  have O5 : Hid (Only p w V5) := by show Only _ _ _; rw [hV5]; exact O4.out.more (only_set p V4 2 _)
  clear hV5 c0 c1 c2 c3 c4 f0 f1 f2 f3 f4 R4 O4
  simp only [Leaves, settle, results, Try.results67]
  first | exact ⟨_, rfl, rfl, R5.out, O5.out⟩ | (refine ⟨_, results_none rfl _ _ _, rfl, R5.out, O5.out⟩) | (simp; exact ⟨R5.out, O5.out⟩)
set_option maxRecDepth 100000 in
set_option maxHeartbeats 4000000 in
theorem once_first (p q N c b3 b4 : Nat) (pl : Nat) (f : Int) (w : World) (h : w.rowIs p 80 5 (rowN (paL q N c 0 0 f))) (h3 : w.cell? ⟨b3, 0, none⟩ = some (.pointer (some ⟨p, 0, none⟩))) (h4 : w.cell? ⟨b4, 0, none⟩ = some (.int .i64 (pl : Int))) :
    Calls Try.prog 60 #[.pointer (some ⟨p, 1, none⟩), (.func (.func 61) #[] #[.pointer (some ⟨b4, 0, none⟩), .pointer (some ⟨b3, 0, none⟩)])] w fun e w' => e = .returned (.tuple #[]) ∧ w'.rowIs p 80 5 (rowN (paL q N c 1 0 (pl : Int))) ∧ Only p w w' := by
  obtain ⟨⟨c0, c1, c2, c3, c4⟩, f0, f1, f2, f3, f4⟩ := rowN5p h
  have H := Lib.hid h
  have hnot : ∀ (x : Bool) (w : World), (Op.unary .not (.bool x)).run Try.prog w = .ok (.bool (!x)) w := fun _ _ => rfl
  clear h
  go_enter Try.func60, Try.ntmps60
  go_wp2_with fail
  refine (obload_any p 1 0 _ c1).mono ?_
  rintro e V2 ⟨rfl, hV2⟩
  rw [hV2]
  clear hV2 V2
  go_wp2_with fail
  refine (oslow_any p q N c b3 b4 pl f _ H.out h3 h4).mono ?_
  rintro e V3 ⟨rfl, hr, ho⟩
  have HR := Lib.hid hr
  have HO := Lib.hid ho
  clear hr ho
  go_wp2_with fail
  exact bodyPost_end (v := .tuple #[]) (by simp [results, Try.results60, go_sem]) rfl ⟨rfl, HR.out, HO.out⟩
set_option maxRecDepth 100000 in
set_option maxHeartbeats 4000000 in
theorem once_done (p : Nat) (fv : Value) (w : World) (h : w.cell? ⟨p, 1, none⟩ = some (.int .u32 1)) :
    Calls Try.prog 60 #[.pointer (some ⟨p, 1, none⟩), fv] w fun e w' => e = .returned (.tuple #[]) ∧ w' = w := by
  have hnot : ∀ (x : Bool) (w : World), (Op.unary .not (.bool x)).run Try.prog w = .ok (.bool (!x)) w := fun _ _ => rfl
  go_enter Try.func60, Try.ntmps60
  go_wp2_with fail
  refine (obload_any p 1 1 _ h).mono ?_
  rintro e V2 ⟨rfl, hV2⟩
  rw [hV2]
  clear hV2 V2
  go_wp2_with fail
  exact bodyPost_end (v := .tuple #[]) (by simp [results, Try.results60, go_sem]) rfl ⟨rfl, rfl⟩
/-- What stands while a panel takes values. -/
structure PanS (w : World) (p q N c : Nat) (A : Nat → Al.A) (d f : Int) (W : World) : Prop where
  row : W.rowIs p 80 5 (rowN (paL q N c d 0 f))
  al : ∃ m F, N * 6 ≤ m ∧ W.rowIs q 25 m F ∧ ∀ i, i < N → (F (i * 6) = .int .i64 (A i).hi ∧ F (i * 6 + 1) = .int .i64 (A i).lo ∧ F (i * 6 + 2) = .int .i64 (A i).dl ∧ F (i * 6 + 3) = .int .i64 (A i).st ∧ F (i * 6 + 4) = .int .i64 (A i).ct ∧ F (i * 6 + 5) = .int .i64 (A i).sh)
  ne : p ≠ q
  lo : w.heap.size ≤ p ∧ w.heap.size ≤ q
  old : Below w.heap.size w W
theorem PanS.below {w : World} {p q N c : Nat} {A : Nat → Al.A} {d f : Int} {W W' : World} (h : PanS w p q N c A d f W) (hb : Below W.heap.size W W') : PanS w p q N c A d f W' := by
  obtain ⟨m, F, h1, h2, h3⟩ := h.al
  exact ⟨nrow_below h.row hb, ⟨m, F, h1, nrow_below h2 hb, h3⟩, h.ne, h.lo, h.old.trans (hb.mono h.old.size)⟩
def updA (A : Nat → Al.A) (i : Nat) (x : Al.A) : Nat → Al.A := fun j => if j = i then x else A j
/-- How the panel stands once one of its alarms took a value. -/
def PkEnd (w : World) (p q N c : Nat) (A : Nat → Al.A) (d f : Int) (pl : Nat) (v : Int) (W : World) : Prop :=
  ∃ d' f' : Int, PanS w p q N c (updA A pl (Al.take (A pl) v)) d' f' W ∧ ((¬ (¬ (A pl).st = 2 ∧ (Al.take (A pl) v).st = 2) ∧ d' = d ∧ f' = f) ∨ ((¬ (A pl).st = 2 ∧ (Al.take (A pl) v).st = 2) ∧ d' = 1 ∧ ((d = 0 ∧ f' = (pl : Int)) ∨ (d = 1 ∧ f' = f))))
set_option maxRecDepth 100000 in
set_option maxHeartbeats 16000000 in
theorem ptake_any (w : World) (p q N c : Nat) (A : Nat → Al.A) (d f : Int) (pl : Nat) (v : Int) (W : World) (h : PanS w p q N c A d f W) (hpl : pl < N) (hr : Al.Right (A pl)) (hd : d = 0 ∨ d = 1) :
    Calls Try.prog 52 #[.pointer (some ⟨p, 0, none⟩), .int .i64 (pl : Int), .int .i64 v] W fun e W' => e = .returned (.tuple #[]) ∧ PkEnd w p q N c A d f pl v W' := by
  have hmf : ∀ (fn : Fn) (first cap : Array Value) (w : World), (Instr.makeFunc fn first cap).run Try.prog w = .ok (.func fn first cap) w := fun _ _ _ _ => rfl
  obtain ⟨W1, hW1⟩ : ∃ W1, W1 = (W.alloc (.cells #[.pointer (some ⟨p, 0, none⟩)] 64)).alloc (.cells #[.int .i64 (pl : Int)] 3) := ⟨_, rfl⟩
  have HS : Hid (PanS w p q N c A d f W1) := by show PanS _ _ _ _ _ _ _ _ _; rw [hW1]; exact (h.below (nbel_alloc _ _)).below (nbel_alloc _ _)
  have HB3 : Hid (W1.rowIs W.heap.size 64 1 (rowN [.pointer (some ⟨p, 0, none⟩)])) := by show World.rowIs _ _ _ _ _; rw [hW1]; exact nrow_below (rowN_alloc W [.pointer (some ⟨p, 0, none⟩)] _) (nbel_alloc _ _)
  have HB4 : Hid (W1.rowIs (W.heap.size + 1) 3 1 (rowN [.int .i64 (pl : Int)])) := by show World.rowIs _ _ _ _ _; rw [hW1]; exact rowN_alloc' (by simp) [.int .i64 (pl : Int)] _
  have HNE : Hid (p < W.heap.size ∧ q < W.heap.size) := ⟨h.row.lt, by obtain ⟨_, _, _, h2, _⟩ := h.al; exact h2.lt⟩
  have HW := Lib.hid hW1
  have HR := Lib.hid hr
  have HD := Lib.hid hd
  have hplz : (pl : Int) < (N : Int) := by omega
  clear hW1 h hr hd
  go_enter Try.func52, Try.ntmps52
  go_wp2_with fail
  rw [← HW.out]
  clear HW
  obtain ⟨⟨c0, c1, c2, c3, c4⟩, _⟩ := rowN5p HS.out.row
  have b3 : W1.cell? ⟨W.heap.size, 0, none⟩ = some (.pointer (some ⟨p, 0, none⟩)) := HB3.out.cell (i := 0) (by omega)
  have b4 : W1.cell? ⟨W.heap.size + 1, 0, none⟩ = some (.int .i64 (pl : Int)) := HB4.out.cell (i := 0) (by omega)
  go_region
  obtain ⟨V, hV⟩ : ∃ V, V = W1.drew := ⟨_, rfl⟩
  have HS2 : Hid (PanS w p q N c A d f V) := by show PanS _ _ _ _ _ _ _ _ _; rw [hV]; exact HS.out.below (Below.refl _ _).drew
  have HB32 : Hid (V.rowIs W.heap.size 64 1 (rowN [.pointer (some ⟨p, 0, none⟩)])) := by show World.rowIs _ _ _ _ _; rw [hV]; exact HB3.out.of_block rfl
  have HB42 : Hid (V.rowIs (W.heap.size + 1) 3 1 (rowN [.int .i64 (pl : Int)])) := by show World.rowIs _ _ _ _ _; rw [hV]; exact HB4.out.of_block rfl
  rw [← hV]
  clear hV HS HB3 HB4 c0 c1 c2 c3 c4 b3 b4
  obtain ⟨m, F, m1, m2, m3⟩ := HS2.out.al
  obtain ⟨X, hX⟩ : ∃ X, X = A pl := ⟨_, rfl⟩
  have hc := m3 pl hpl
  rw [← hX] at hc
  have HROW : Hid (AlRow 25 q m (pl * 6) F X V) := ⟨m2, by omega, hc.1, hc.2.1, hc.2.2.1, hc.2.2.2.1, hc.2.2.2.2.1, hc.2.2.2.2.2⟩
  have HM3 := Lib.hid m3
  have HM1 := Lib.hid m1
  have HX := Lib.hid hX
  obtain ⟨⟨x0, x1, x2, x3, x4, x5⟩, _, hq⟩ := HROW.out.cells
  clear m1 m2 m3 hc hX
  go_wp2_with fail
  clear x0 x1 x2 x3 x4 x5 hq
  refine (atake_any 25 q m (pl * 6) F X v _ HROW.out (by rw [HX.out]; exact HR.out)).mono ?_
  rintro e V2 ⟨rfl, hE⟩
  obtain ⟨Y, hY⟩ : ∃ Y, Y = Al.take X v := ⟨_, rfl⟩
  rw [← hY] at hE
  obtain ⟨⟨y0, y1, y2, y3, y4, y5⟩, _, _⟩ := hE.cells
  have ho : Only q V V2 := by obtain ⟨_, _, _, q⟩ := hE; exact q
  have HVS : Hid (W.heap.size + 1 < V.heap.size) := HB42.out.lt
  have HB33 := Lib.hid (HB32.out.of_block (ho.block _ HB32.out.lt (by have := HNE.out.2; omega)))
  have HB43 := Lib.hid (HB42.out.of_block (ho.block _ HB42.out.lt (by have := HNE.out.2; omega)))
  have HS3 : Hid (PanS w p q N c (updA A pl Y) d f V2) := by
    obtain ⟨F', e1, e2, _⟩ := hE
    have lo := HS2.out.lo
    refine ⟨HS2.out.row.of_block (ho.block _ HS2.out.row.lt HS2.out.ne), ⟨m, F', HM1.out, e1.r, fun i hi => ?_⟩, HS2.out.ne, lo, HS2.out.old.trans (ho.below lo.2 HS2.out.old.size)⟩
    unfold updA
    by_cases k : i = pl
    · subst k
      rw [if_pos rfl]
      exact ⟨e1.c0, e1.c1, e1.c2, e1.c3, e1.c4, e1.c5⟩
    · rw [if_neg k]
      have := HM3.out i hi
      refine ⟨?_, ?_, ?_, ?_, ?_, ?_⟩
      · rw [e2 _ (by omega)]; exact this.1
      · rw [e2 _ (by omega)]; exact this.2.1
      · rw [e2 _ (by omega)]; exact this.2.2.1
      · rw [e2 _ (by omega)]; exact this.2.2.2.1
      · rw [e2 _ (by omega)]; exact this.2.2.2.2.1
      · rw [e2 _ (by omega)]; exact this.2.2.2.2.2
  have HYE : Hid (Y = Al.take (A pl) v) := by show Y = _; rw [hY, HX.out]
  clear hE ho hY HS2 HB32 HB42 HROW HM3 HM1
  by_cases r1 : Y.st = X.st
  · have z1 : (Y.st != X.st) = false := by simp [r1]
    have HE : Hid (PkEnd w p q N c A d f pl v V2) := ⟨d, f, by rw [← HYE.out]; exact HS3.out, Or.inl ⟨by rw [← HYE.out, ← HX.out, r1]; intro k; exact k.1 k.2, rfl, rfl⟩⟩
    clear r1
    go_wp2_with fail
    exact bodyPost_end (v := .tuple #[]) (by simp [results, Try.results52, go_sem]) rfl ⟨rfl, HE.out⟩
  have z1 : (Y.st != X.st) = true := by simp [r1]
  by_cases r2 : Y.st = 2
  case neg =>
    have z2 : (Y.st == 2) = false := by simpa using r2
    have HE : Hid (PkEnd w p q N c A d f pl v V2) := ⟨d, f, by rw [← HYE.out]; exact HS3.out, Or.inl ⟨by rw [← HYE.out]; intro k; exact r2 k.2, rfl, rfl⟩⟩
    clear r1 r2
    go_wp2_with fail
    exact bodyPost_end (v := .tuple #[]) (by simp [results, Try.results52, go_sem]) rfl ⟨rfl, HE.out⟩
  have z2 : (Y.st == 2) = true := by simp [r2]
  have HRA : Hid (¬ (A pl).st = 2 ∧ (Al.take (A pl) v).st = 2) := ⟨by rw [← HX.out]; omega, by rw [← HYE.out]; exact r2⟩
  have b3 : V2.cell? ⟨W.heap.size, 0, none⟩ = some (.pointer (some ⟨p, 0, none⟩)) := HB33.out.cell (i := 0) (by omega)
  clear r1 r2
  rcases HD.out with rfl | rfl
  · go_wp2_with fail
    clear y0 y1 y2 y3 y4 y5 b3
    refine (once_first p q N c W.heap.size (W.heap.size + 1) pl f _ HS3.out.row (HB33.out.cell (i := 0) (by omega)) (HB43.out.cell (i := 0) (by omega))).mono ?_
    rintro e V3 ⟨rfl, hr, ho⟩
    have HE : Hid (PkEnd w p q N c A 0 f pl v V3) := by
      obtain ⟨m, F, m1, m2, m3⟩ := HS3.out.al
      have lo := HS3.out.lo
      refine ⟨1, (pl : Int), ?_, Or.inr ⟨HRA.out, rfl, Or.inl ⟨rfl, rfl⟩⟩⟩
      rw [← HYE.out]
      exact ⟨hr, ⟨m, F, m1, m2.of_block (ho.block _ m2.lt HS3.out.ne.symm), m3⟩, HS3.out.ne, lo, HS3.out.old.trans (ho.below lo.1 HS3.out.old.size)⟩
    clear hr ho HS3
    go_wp2_with fail
    exact bodyPost_end (v := .tuple #[]) (by simp [results, Try.results52, go_sem]) rfl ⟨rfl, HE.out⟩
  · go_wp2_with fail
    clear y0 y1 y2 y3 y4 y5 b3
    refine (once_done p _ _ ((rowN5p HS3.out.row).1.2.1)).mono ?_
    rintro e V3 ⟨rfl, hw⟩
    rw [hw]
    clear hw V3
    have HE : Hid (PkEnd w p q N c A 1 f pl v V2) := ⟨1, f, by rw [← HYE.out]; exact HS3.out, Or.inr ⟨HRA.out, rfl, Or.inr ⟨rfl, rfl⟩⟩⟩
    go_wp2_with fail
    exact bodyPost_end (v := .tuple #[]) (by simp [results, Try.results52, go_sem]) rfl ⟨rfl, HE.out⟩
end Go.Proofs.Ytnfdamkjkclnmaa
