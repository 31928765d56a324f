/-
  The program's LadderAt.
-/
import Derived.Test.YthcgffnkpeiddaaLdI2
import Derived.Test.YthcgffnkpeiddaaLdRd
namespace Go.Proofs.Ythcgffnkpeiddaa
open Go.RowKit Go.Shelf Go.Deep

attribute [local go_sem] Oper.semAt_some lrun_store_float lrun_store_complex
/-- A ladder's answer over rungs at such places. -/
def ladL (f : (Nat → Nat) × (Nat → Nat) × (Nat → Nat)) (t : Nat) : List Nat → Nat × Nat := List.foldl (fun z x => (Fl.zRe (f.1 x) (Fl.mulW (f.2.2 x) t) z.1 z.2, Fl.zIm (Fl.mulW (f.2.1 x) t) (Fl.mulW (f.2.2 x) t) z.1 z.2)) (0, 0)
theorem ladL_snoc (f : (Nat → Nat) × (Nat → Nat) × (Nat → Nat)) (t : Nat) (l : List Nat) (x : Nat) : ladL f t (l ++ [x]) = (Fl.zRe (f.1 x) (Fl.mulW (f.2.2 x) t) (ladL f t l).1 (ladL f t l).2, Fl.zIm (Fl.mulW (f.2.1 x) t) (Fl.mulW (f.2.2 x) t) (ladL f t l).1 (ladL f t l).2) := by simp [ladL]
theorem ladL_bd {f : (Nat → Nat) × (Nat → Nat) × (Nat → Nat)} {t : Nat} (hf : ∀ i, rgB f i = true) (ht : Fl.Bd 29 t) : ∀ l : List Nat, Fl.Bd 545 (ladL f t l).1 ∧ Fl.Bd 545 (ladL f t l).2 := by
  have key : ∀ (l : List Nat) (z : Nat × Nat), Fl.Bd 545 z.1 ∧ Fl.Bd 545 z.2 → Fl.Bd 545 (List.foldl (fun z x => (Fl.zRe (f.1 x) (Fl.mulW (f.2.2 x) t) z.1 z.2, Fl.zIm (Fl.mulW (f.2.1 x) t) (Fl.mulW (f.2.2 x) t) z.1 z.2)) z l).1 ∧ Fl.Bd 545 (List.foldl (fun z x => (Fl.zRe (f.1 x) (Fl.mulW (f.2.2 x) t) z.1 z.2, Fl.zIm (Fl.mulW (f.2.1 x) t) (Fl.mulW (f.2.2 x) t) z.1 z.2)) z l).2 := by
    intro l
    induction l with
    | nil => intro z h; exact h
    | cons x l ih =>
      intro z h
      have hb := rgB_bd (hf x)
      exact ih _ (Fl.z_bd h.1 h.2 (Fl.prod_bd hb.2.2 ht).2 hb.1 (Fl.prod_bd hb.2.1 ht).2).1
  intro l
  exact key l (0, 0) ⟨Fl.zero_bd _, Fl.zero_bd _⟩
theorem rgsB_all {f : (Nat → Nat) × (Nat → Nat) × (Nat → Nat)} (hf : ∀ i, rgB f i = true) : ∀ n, rgsB f n = true
  | 0 => rfl
  | n + 1 => by show (rgsB f n && rgB f n) = true; rw [rgsB_all hf n, hf n]; rfl
theorem cells_own {β : Type} (B : Nat) (t : TypeId) (cs : β → Array Value) : Own (fun s W => W.heap[B]? = some (.cells (cs s) t (0, 0))) := fun s X Y row hs hg hrow =>
  (hg.block B (Array.getElem?_eq_some_iff.1 hs).1 (fun e' => by obtain ⟨o, ho, hc⟩ := hrow B e'.symm; rw [show X.heap[B]? = _ from hs] at ho; cases ho; cases hc)).trans hs
/-- What stands between two rounds. -/
def LdS (f : (Nat → Nat) × (Nat → Nat) × (Nat → Nat)) (t s Z : Nat) (pre : List Nat) (W : World) : Prop := (Boxed W Z 56 (.complex .f64 (ladL f t pre).1 (ladL f t pre).2) ∧ Boxed W s 22 (.float .f64 t)) ∧ W.heap[s + 1]? = some (.cells #[.float .f64 0, .float .f64 0] 33 (0, 0))
theorem lds_own (f : (Nat → Nat) × (Nat → Nat) × (Nat → Nat)) (t s Z : Nat) : Own (LdS f t s Z) := fun pre X Y row hs hg hr =>
  ⟨⟨boxed_own Z _ (fun pre => .complex .f64 (ladL f t pre).1 (ladL f t pre).2) pre X Y row hs.1.1 hg hr, boxed_own s _ (fun _ : List Nat => .float .f64 t) pre X Y row hs.1.2 hg hr⟩, cells_own (s + 1) _ (fun _ : List Nat => #[.float .f64 0, .float .f64 0]) pre X Y row hs.2 hg hr⟩
theorem LdS.block {f : (Nat → Nat) × (Nat → Nat) × (Nat → Nat)} {t s Z : Nat} {pre : List Nat} {W W' : World} (h : LdS f t s Z pre W) (hb : ∀ k, k < W.heap.size → W'.heap[k]? = W.heap[k]?) : LdS f t s Z pre W' := ⟨⟨(hb Z h.1.1.lt).trans h.1.1, (hb s h.1.2.lt).trans h.1.2⟩, (hb (s + 1) (Array.getElem?_eq_some_iff.1 h.2).1).trans h.2⟩
theorem lds_store {f : (Nat → Nat) × (Nat → Nat) × (Nat → Nat)} {t s Z : Nat} {pre : List Nat} {x : Nat} {W : World} (h : LdS f t s Z pre W) (hZ : s + 1 < Z) (K : Nat) :
    LdS f t s Z (pre ++ [x]) ((W.drewN K).setCell ⟨Z, 0, none⟩ (.complex .f64 (Fl.zRe (f.1 x) (Fl.mulW (f.2.2 x) t) (ladL f t pre).1 (ladL f t pre).2) (Fl.zIm (Fl.mulW (f.2.1 x) t) (Fl.mulW (f.2.2 x) t) (ladL f t pre).1 (ladL f t pre).2))) := by
  have a1 : Boxed (W.drewN K) Z 56 (.complex .f64 (ladL f t pre).1 (ladL f t pre).2) := h.1.1
  have a2 : Boxed (W.drewN K) s 22 (.float .f64 t) := h.1.2
  refine ⟨⟨?_, a2.other (by omega) _⟩, ?_⟩
  · rw [ladL_snoc]; exact a1.set _
  · exact ((grownBy_setCell' (W.drewN K) Z _).block (s + 1) (Array.getElem?_eq_some_iff.1 h.2).1 (fun e => by cases e; omega)).trans h.2
set_option maxRecDepth 100000 in
set_option maxHeartbeats 2000000 in
theorem ladderOk (g n cap : Nat) (f : (Nat → Nat) × (Nat → Nat) × (Nat → Nat)) (t : Nat) (w : World) (h : RgBlk g n f w) (hn : n ≤ 30) (hf : ∀ i, rgB f i = true) (ht : Fl.measB t = true) :
    Calls Try.prog 15 #[.slice (some ⟨g, 0, none⟩) n cap, .float .f64 t] w fun e w' => e = .returned (cnV (ladL f t (dn n n)).1 (ladL f t (dn n n)).2) ∧ Below w.heap.size w w' := by
  obtain ⟨W0, hW0⟩ : ∃ W0, W0 = (w.alloc (.cells #[.float .f64 t] 22)).alloc (.cells #[.float .f64 0, .float .f64 0] 33) := ⟨_, rfl⟩
  have HB0 : Hid (Below w.heap.size w W0) := by show Below _ _ _; rw [hW0]; exact (bel_alloc _ _).alloc (by simp) _
  have HT0 : Hid (Boxed W0 w.heap.size 22 (.float .f64 t)) := by show Boxed _ _ _ _; rw [hW0]; exact (Boxed.new w _ _).alloc _
  have HR0 : Hid (W0.heap[w.heap.size + 1]? = some (.cells #[.float .f64 0, .float .f64 0] 33 (0, 0))) := by
    show _ = _
    rw [hW0]
    have := World.alloc_heap_new (w.alloc (.cells #[.float .f64 t] 22)) (.cells #[.float .f64 0, .float .f64 0] 33)
    rw [World.size_alloc] at this
    exact this
  have HW0 := Lib.hid hW0
  have H := Lib.hid h
  have HF := Lib.hid hf
  have HT : Hid (Fl.Bd 29 t) := Fl.meas_bd ht
  have hnz : ¬ (30 : Int) < (n : Int) := by omega
  clear h hf hW0
  refine (callsIn_wide (n := 4)).1 ?_
  refine callsIn_of_wp_marks Try.func15 rfl trivial ?_ rfl
  simp only [Try.ntmps15, List.size_toArray, List.length_cons, List.length_nil, Nat.reduceAdd, Nat.reduceSub, Array.replicate_succ, Array.replicate_zero, List.push_toArray, List.append_toArray, List.nil_append, List.cons_append]
  gi_wp2_with fail
  rw [← HW0.out]
  clear HW0
  refine ⟨trivial, (callsIn_wide.2 (rungsRight_any g n cap f _ (H.out.below HB0.out) (by omega))).mono ?_⟩
  rintro e w1 ⟨rfl, hb⟩
  rw [rgsB_all HF.out n]
  have HB1 : Hid (Below w.heap.size w w1) := HB0.out.trans (hb.mono HB0.out.size)
  have HT1 : Hid (Boxed w1 w.heap.size 22 (.float .f64 t)) := (hb.block _ HT0.out.lt).trans HT0.out
  have HR1 : Hid (w1.heap[w.heap.size + 1]? = some (.cells #[.float .f64 0, .float .f64 0] 33 (0, 0))) := (hb.block _ (Array.getElem?_eq_some_iff.1 HR0.out).1).trans HR0.out
  clear hb HT0 HR0 HB0
  have ct := HT1.out.cell
  gi_wp2_with (refine ⟨trivial, ?_⟩; gi_at_call 27; refine (callsIn_wide.2 (implMeas_any _ _)).mono ?_; rintro e w' ⟨rfl, hw⟩; subst w')
  refine ⟨trivial, (callsIn_wide.2 (backward_any _ _ _ _)).mono ?_⟩
  rintro e w2 ⟨rfl, rfl⟩
  gi_wp2_with fail
  obtain ⟨W2, hW2⟩ : ∃ W2, W2 = (w1.alloc (.cells #[.complex .f64 0 0] 56)).alloc (.cells #[.slice (some ⟨g, 0, none⟩) n cap] 35) := ⟨_, rfl⟩
  rw [← hW2]
  have HB2 : Hid (Below w.heap.size w W2) := by show Below _ _ _; rw [hW2]; exact (HB1.out.alloc HB1.out.size _).alloc (by simp; have := HB1.out.size; omega) _
  have HS2 : Hid (Boxed W2 (w1.heap.size + 1) 35 (.slice (some ⟨g, 0, none⟩) n cap)) := by
    show Boxed _ _ _ _
    rw [hW2]
    have := Boxed.new (w1.alloc (.cells #[.complex .f64 0 0] 56)) 35 (.slice (some ⟨g, 0, none⟩) n cap)
    rw [World.size_alloc] at this
    exact this
  have lw : w.heap.size + 1 < w1.heap.size := (Array.getElem?_eq_some_iff.1 HR1.out).1
  have HZ2 : Hid (LdS f t w.heap.size w1.heap.size [] W2) := by
    show LdS _ _ _ _ _ _
    rw [hW2]
    refine ⟨⟨(Boxed.new w1 _ _).alloc _, (HT1.out.alloc _).alloc _⟩, ?_⟩
    exact (Below.heap_alloc _ _ _ (by simp; omega)).trans ((Below.heap_alloc _ _ _ lw).trans HR1.out)
  have HSZ : Hid (W2.heap.size = w1.heap.size + 2) := by show _ = _; rw [hW2]; simp
  have HGL : Hid (g < w.heap.size) := H.out.lt
  clear hW2 HT1 HR1 HB1 ct
  refine wpIn_rangeFunc_ownH rfl (by omega) (gf := 41) (lb := #[.pointer (some ⟨w1.heap.size + 1, 0, none⟩)]) rfl trivial (enters_of Try.func41 (by kernel_rfl) rfl)
    (back_stops 3 (w1.heap.size + 1) w.heap.size g n cap f HGL.out (by omega) W2 HS2.out (H.out.below HB2.out)) (fun h k => ⟨h.1.trans k.1, k.2.trans h.2⟩)
    (fun W l o o' hl h hc hw => ⟨belowK_b (w := W2) HB2.out.size W l o o' hl h hc hw, World.putObj_heap_other (by have := HSZ.out; omega)⟩) (Below.refl _ _) (fun _ => rfl)
    (fun pre W => (LdS f t w.heap.size w1.heap.size pre W ∧ Below w.heap.size w W) ∧ W2.heap.size ≤ W.heap.size)
    (fun _ _ _ => False)
    (OwnFrom.and (OwnFrom.and (Own.from (lds_own f t w.heap.size w1.heap.size) _) (ownFrom_below (Nat.le_refl _) HB2.out.size)) (fun _ _ _ _ hs hg _ => Nat.le_trans hs hg.size))
    (fun _ _ _ _ _ hs _ _ => hs)
    ⟨⟨HZ2.out, HB2.out⟩, Nat.le_refl _⟩
    (fun x a' W => ∃ Bx, W2.heap.size ≤ Bx ∧ W.heap[Bx]? = some (.cells #[.float .f64 (f.1 x), .float .f64 (f.2.1 x), .float .f64 (f.2.2 x)] 52 (0, 0)) ∧ a' = { tmps := #[.slice (some ⟨g, 0, none⟩) n cap, .float .f64 t, undef, .pointer (some ⟨w.heap.size, 0, none⟩), .pointer (some ⟨w.heap.size + 1, 0, none⟩), .pointer (some ⟨w1.heap.size, 0, none⟩), undef, .pointer (some ⟨Bx, 0, none⟩), undef, .slice (some ⟨g, 0, none⟩) n cap, .int .i64 n, .bool false, .bool false, .slice (some ⟨g, 0, none⟩) n cap, .bool true, .bool false, .bool false, .bool false, .float .f64 t, .bool true, .bool false, .bool false, undef, .slice (some ⟨g, 0, none⟩) n cap, .func (.func 41) #[] #[.pointer (some ⟨w1.heap.size + 1, 0, none⟩)], .int .i64 (x : Int), rgV (f.1 x) (f.2.1 x) (f.2.2 x), undef, undef, undef, undef, undef, undef, undef, undef, undef, undef, undef, undef, undef, undef, undef, undef, undef, undef, undef, undef, undef, undef, undef], defers := [] })
    (fun x a' _ X Y row hs hg hr => by
      obtain ⟨Bx, h1, h2, h3⟩ := hs
      exact ⟨Bx, h1, cells_own Bx _ (fun _ : Unit => #[.float .f64 (f.1 x), .float .f64 (f.2.1 x), .float .f64 (f.2.2 x)]) () X Y row h2 hg (fun r e => (hr r e).2), h3⟩)
    ?assign ?body ?done ?stop
  case assign =>
    rintro l pre x W K ⟨⟨hi, hB⟩, hw⟩ hK
    have hWs : Hid (W2.heap.size ≤ W.heap.size) := hw
    gi_wp2
    refine hK _ _ ((KeepsOthers.alloc _ _).from _) ⟨(Below.refl _ W).alloc hB.size _, Below.heap_alloc _ _ _ (by have := HSZ.out; have := hWs.out; omega)⟩ ⟨⟨hi.block (fun k hk => Below.heap_alloc _ _ _ hk), hB.alloc hB.size _⟩, by simp; omega⟩ ⟨W.heap.size, hWs.out, World.alloc_heap_new _ _, rfl⟩
  case body =>
    rintro l pre x a' W hl ⟨r, hr⟩ ⟨⟨hi, hB⟩, hw⟩ ⟨Bx, hBx, bX, rfl⟩ hlt
    have HP := Lib.hid (ladL_bd HF.out HT.out pre)
    have FIN : Hid (∀ K : Nat, KeepsFrom W2.heap.size W ((W.drewN K).setCell ⟨w1.heap.size, 0, none⟩ (.complex .f64 (Fl.zRe (f.1 x) (Fl.mulW (f.2.2 x) t) (ladL f t pre).1 (ladL f t pre).2) (Fl.zIm (Fl.mulW (f.2.1 x) t) (Fl.mulW (f.2.2 x) t) (ladL f t pre).1 (ladL f t pre).2))) ∧ Kept w.heap.size (w1.heap.size + 1) W ((W.drewN K).setCell ⟨w1.heap.size, 0, none⟩ (.complex .f64 (Fl.zRe (f.1 x) (Fl.mulW (f.2.2 x) t) (ladL f t pre).1 (ladL f t pre).2) (Fl.zIm (Fl.mulW (f.2.1 x) t) (Fl.mulW (f.2.2 x) t) (ladL f t pre).1 (ladL f t pre).2))) ∧ (LdS f t w.heap.size w1.heap.size (pre ++ [x]) ((W.drewN K).setCell ⟨w1.heap.size, 0, none⟩ (.complex .f64 (Fl.zRe (f.1 x) (Fl.mulW (f.2.2 x) t) (ladL f t pre).1 (ladL f t pre).2) (Fl.zIm (Fl.mulW (f.2.1 x) t) (Fl.mulW (f.2.2 x) t) (ladL f t pre).1 (ladL f t pre).2))) ∧ Below w.heap.size w ((W.drewN K).setCell ⟨w1.heap.size, 0, none⟩ (.complex .f64 (Fl.zRe (f.1 x) (Fl.mulW (f.2.2 x) t) (ladL f t pre).1 (ladL f t pre).2) (Fl.zIm (Fl.mulW (f.2.1 x) t) (Fl.mulW (f.2.2 x) t) (ladL f t pre).1 (ladL f t pre).2)))) ∧ W2.heap.size ≤ ((W.drewN K).setCell ⟨w1.heap.size, 0, none⟩ (.complex .f64 (Fl.zRe (f.1 x) (Fl.mulW (f.2.2 x) t) (ladL f t pre).1 (ladL f t pre).2) (Fl.zIm (Fl.mulW (f.2.1 x) t) (Fl.mulW (f.2.2 x) t) (ladL f t pre).1 (ladL f t pre).2))).heap.size) := by
      intro K
      have hbl : Below w.heap.size W ((W.drewN K).setCell ⟨w1.heap.size, 0, none⟩ (.complex .f64 (Fl.zRe (f.1 x) (Fl.mulW (f.2.2 x) t) (ladL f t pre).1 (ladL f t pre).2) (Fl.zIm (Fl.mulW (f.2.1 x) t) (Fl.mulW (f.2.2 x) t) (ladL f t pre).1 (ladL f t pre).2))) := (below_drewN (Below.refl _ W) K).setCell (p := ⟨w1.heap.size, 0, none⟩) (show w.heap.size ≤ w1.heap.size by omega) _
      refine ⟨(show KeepsOthers W _ from KeepsOthers.trans (A := W) (B := W.drewN K) ⟨Nat.le_refl _, fun _ _ h _ => h⟩ (KeepsOthers.setCell _ _ _)).from _, ⟨hbl, ?_⟩, ⟨lds_store hi lw K, hB.trans hbl⟩, Nat.le_trans hw hbl.size⟩
      have := HSZ.out
      exact (grownBy_setCell' (W.drewN K) w1.heap.size _).block (w1.heap.size + 1) (show _ < W.heap.size by omega) (fun e => by have := Option.some.inj e; omega)
    have hb3 := rgB_bd (HF.out x)
    have pc := Fl.prod_bd hb3.2.2 HT.out
    have pb := Fl.prod_bd hb3.2.1 HT.out
    have bz := hi.1.1.cell
    have fz := hi.1.1.frozen
    have bt := hi.1.2.cell
    have c0 : W.cell? ⟨Bx, 0, none⟩ = some (.float .f64 (f.1 x)) := by simp [World.cell?, bX]
    have c1 : W.cell? ⟨Bx, 1, none⟩ = some (.float .f64 (f.2.1 x)) := by simp [World.cell?, bX]
    have c2 : W.cell? ⟨Bx, 2, none⟩ = some (.float .f64 (f.2.2 x)) := by simp [World.cell?, bX]
    have NE : Hid (w1.heap.size ≠ Bx ∧ w1.heap.size ≠ w.heap.size) := by
      show _ ∧ _
      have := HSZ.out
      exact ⟨by omega, by omega⟩
    clear hi hB hw bX hr hl hlt hBx
    generalize (ladL f t pre).1 = p at *
    generalize (ladL f t pre).2 = q at *
    generalize f.1 x = a at *
    generalize f.2.1 x = b at *
    generalize f.2.2 x = c at *
    have hy := Fl.y_bd HP.out.1 HP.out.2 pc.2
    have hz := Fl.z_bd HP.out.1 HP.out.2 pc.2 hb3.1 pb.2
    have HY := Lib.hid hy.1
    have q1 := fun (wx : World) => run_float_arith (P := Try.prog) (w := wx) .mul 22 .f64 c t _ pc.1
    have q2 := fun (wx : World) => run_float_arith (P := Try.prog) (w := wx) .mul 22 .f64 b t _ pb.1
    have s1 := fun (wx : World) => run_complex_sum (P := Try.prog) (w := wx) .add (Or.inl rfl) 56 .f64 0 (Fl.mulW c t) (Fl.qRe p q) (Fl.qIm p q) (Fl.addW 0 (Fl.qRe p q)) (Fl.addW (Fl.mulW c t) (Fl.qIm p q)) (by unfold cSumBits; rw [hy.2.1, hy.2.2]; rfl)
    have s2 := fun (wx : World) => run_complex_sum (P := Try.prog) (w := wx) .add (Or.inl rfl) 56 .f64 a (Fl.mulW b t) (Fl.qRe (Fl.yRe p q) (Fl.yIm (Fl.mulW c t) p q)) (Fl.qIm (Fl.yRe p q) (Fl.yIm (Fl.mulW c t) p q)) (Fl.zRe a (Fl.mulW c t) p q) (Fl.zIm (Fl.mulW b t) (Fl.mulW c t) p q) (by unfold cSumBits; rw [hz.2.1, hz.2.2]; rfl)
    have z0 := Fl.zz_order
    clear hy hz pc pb hb3
    rcases Fl.zero_cases HP.out.1.nm HP.out.2.nm with ⟨o1, o2, e1, e2⟩ | ⟨o1 | o1, e1, e2⟩ | ⟨o1, o2 | o2, e1, e2⟩
    · rw [e1, e2 (Fl.mulW c t)] at s2 HY
      clear s1 e1 e2
      gi_wp2_with fail
      have hmx : Try.prog.follows .mixedOrders = true := by kernel_rfl
      refine region_round (S := fun V => V.cell? ⟨Bx, 0, none⟩ = some (.float .f64 a) ∧ V.cell? ⟨Bx, 1, none⟩ = some (.float .f64 b) ∧ V.cell? ⟨w.heap.size, 0, none⟩ = some (.float .f64 t)) hmx (by kernel_rfl) (by rintro ⟨_, _, h⟩; exact h) ⟨c0, c1, bt⟩ (fun hHeld => ?_)
      refine take_do (i := 0) (v := (.pointer (some ⟨Bx, 0, none⟩))) rfl (by kernel_rfl) (by kernel_rfl) (by kernel_rfl) (fun _ _ _ h => h) (by rfl) ?_ (by assumption) ?_
      · intro w' hSw
        obtain ⟨r0, r1, r2⟩ := hSw
        go_simp
      simp only [Act.put, List.setIfInBounds_toArray, List.set_cons_zero, List.set_cons_succ]
      refine take_do (i := 1) (v := (.float .f64 a)) rfl (by kernel_rfl) (by kernel_rfl) (by kernel_rfl) (fun _ _ _ h => h) (by rfl) ?_ (by assumption) ?_
      · intro w' hSw
        obtain ⟨r0, r1, r2⟩ := hSw
        go_simp
      simp only [Act.put, List.setIfInBounds_toArray, List.set_cons_zero, List.set_cons_succ]
      refine take_do (i := 2) (v := (.pointer (some ⟨Bx, 1, none⟩))) rfl (by kernel_rfl) (by kernel_rfl) (by kernel_rfl) (fun _ _ _ h => h) (by rfl) ?_ (by assumption) ?_
      · intro w' hSw
        obtain ⟨r0, r1, r2⟩ := hSw
        go_simp
      simp only [Act.put, List.setIfInBounds_toArray, List.set_cons_zero, List.set_cons_succ]
      refine take_do (i := 3) (v := (.float .f64 b)) rfl (by kernel_rfl) (by kernel_rfl) (by kernel_rfl) (fun _ _ _ h => h) (by rfl) ?_ (by assumption) ?_
      · intro w' hSw
        obtain ⟨r0, r1, r2⟩ := hSw
        go_simp
      simp only [Act.put, List.setIfInBounds_toArray, List.set_cons_zero, List.set_cons_succ]
      refine take_do (i := 4) (v := (.float .f64 t)) rfl (by kernel_rfl) (by kernel_rfl) (by kernel_rfl) (fun _ _ _ h => h) (by rfl) ?_ (by assumption) ?_
      · intro w' hSw
        obtain ⟨r0, r1, r2⟩ := hSw
        go_simp
      simp only [Act.put, List.setIfInBounds_toArray, List.set_cons_zero, List.set_cons_succ]
      refine take_do (i := 5) (v := (.float .f64 (Fl.mulW b t))) rfl (by kernel_rfl) (by kernel_rfl) (by kernel_rfl) (fun _ _ _ h => h) (by rfl) ?_ (by assumption) ?_
      · intro w' hSw
        obtain ⟨r0, r1, r2⟩ := hSw
        go_simp
      simp only [Act.put, List.setIfInBounds_toArray, List.set_cons_zero, List.set_cons_succ]
      refine take_do (i := 6) (v := (.complex .f64 a (Fl.mulW b t))) rfl (by kernel_rfl) (by kernel_rfl) (by kernel_rfl) (fun _ _ _ h => h) (by rfl) ?_ (by assumption) ?_
      · intro w' hSw
        obtain ⟨r0, r1, r2⟩ := hSw
        go_simp
      simp only [Act.put, List.setIfInBounds_toArray, List.set_cons_zero, List.set_cons_succ]
      refine take_do (i := 7) (v := (.complex .f64 0 (Fl.mulW c t))) rfl (by kernel_rfl) (by kernel_rfl) (by kernel_rfl) (fun _ _ _ h => h) (by rfl) ?_ (by assumption) ?_
      · intro w' hSw
        obtain ⟨r0, r1, r2⟩ := hSw
        go_simp
      simp only [Act.put, List.setIfInBounds_toArray, List.set_cons_zero, List.set_cons_succ]
      refine take_call (i := 8) rfl (by kernel_rfl) (fun K2 hK => ?_)
      go_simp
      refine (quotOne_any _ _ _ HY.out.1 HY.out.2).mono ?_
      rintro e w' ⟨rfl, k, rfl⟩
      go_wp2_with fail
      refine hK.out _ _ ⟨c0, c1, bt⟩ (fun hHeld2 => ?_)
      clear hK hHeld
      have hHeld := hHeld2
      clear hHeld2
      refine take_do (i := 9) (v := (.complex .f64 (Fl.zRe a (Fl.mulW c t) p q) (Fl.zIm (Fl.mulW b t) (Fl.mulW c t) p q))) rfl (by kernel_rfl) (by kernel_rfl) (by kernel_rfl) (fun _ _ _ h => h) (by rfl) ?_ (by assumption) ?_
      · intro w' hSw
        obtain ⟨r0, r1, r2⟩ := hSw
        go_simp
      simp only [Act.put, List.setIfInBounds_toArray, List.set_cons_zero, List.set_cons_succ]
      refine take_call (i := 10) rfl (by kernel_rfl) (fun K2 hK => ?_)
      go_simp
      refine hK.out _ _ ⟨(World.cell?_setCell_far _ _ _ _ NE.out.1).trans c0, (World.cell?_setCell_far _ _ _ _ NE.out.1).trans c1, (World.cell?_setCell_far _ _ _ _ NE.out.2).trans bt⟩ (fun _ => wpAnyH_done (by kernel_rfl) (FIN.out _) _)
    · rw [e1, e2 (Fl.mulW c t)] at s2 HY
      clear e1 e2
      gi_wp2_with (refine ⟨trivial, ?_⟩; gi_at_call 32; refine (CallsIn.inRound l (callsIn_wide.2 (quotOne_any _ _ _ HP.out.1 HP.out.2))).mono ?_; rintro e w' ⟨rfl, k1, rfl⟩)
      have hmx : Try.prog.follows .mixedOrders = true := by kernel_rfl
      refine region_round (S := fun V => V.cell? ⟨Bx, 0, none⟩ = some (.float .f64 a) ∧ V.cell? ⟨Bx, 1, none⟩ = some (.float .f64 b) ∧ V.cell? ⟨w.heap.size, 0, none⟩ = some (.float .f64 t)) hmx (by kernel_rfl) (by rintro ⟨_, _, h⟩; exact h) ⟨c0, c1, bt⟩ (fun hHeld => ?_)
      refine take_do (i := 0) (v := (.pointer (some ⟨Bx, 0, none⟩))) rfl (by kernel_rfl) (by kernel_rfl) (by kernel_rfl) (fun _ _ _ h => h) (by rfl) ?_ (by assumption) ?_
      · intro w' hSw
        obtain ⟨r0, r1, r2⟩ := hSw
        go_simp
      simp only [Act.put, List.setIfInBounds_toArray, List.set_cons_zero, List.set_cons_succ]
      refine take_do (i := 1) (v := (.float .f64 a)) rfl (by kernel_rfl) (by kernel_rfl) (by kernel_rfl) (fun _ _ _ h => h) (by rfl) ?_ (by assumption) ?_
      · intro w' hSw
        obtain ⟨r0, r1, r2⟩ := hSw
        go_simp
      simp only [Act.put, List.setIfInBounds_toArray, List.set_cons_zero, List.set_cons_succ]
      refine take_do (i := 2) (v := (.pointer (some ⟨Bx, 1, none⟩))) rfl (by kernel_rfl) (by kernel_rfl) (by kernel_rfl) (fun _ _ _ h => h) (by rfl) ?_ (by assumption) ?_
      · intro w' hSw
        obtain ⟨r0, r1, r2⟩ := hSw
        go_simp
      simp only [Act.put, List.setIfInBounds_toArray, List.set_cons_zero, List.set_cons_succ]
      refine take_do (i := 3) (v := (.float .f64 b)) rfl (by kernel_rfl) (by kernel_rfl) (by kernel_rfl) (fun _ _ _ h => h) (by rfl) ?_ (by assumption) ?_
      · intro w' hSw
        obtain ⟨r0, r1, r2⟩ := hSw
        go_simp
      simp only [Act.put, List.setIfInBounds_toArray, List.set_cons_zero, List.set_cons_succ]
      refine take_do (i := 4) (v := (.float .f64 t)) rfl (by kernel_rfl) (by kernel_rfl) (by kernel_rfl) (fun _ _ _ h => h) (by rfl) ?_ (by assumption) ?_
      · intro w' hSw
        obtain ⟨r0, r1, r2⟩ := hSw
        go_simp
      simp only [Act.put, List.setIfInBounds_toArray, List.set_cons_zero, List.set_cons_succ]
      refine take_do (i := 5) (v := (.float .f64 (Fl.mulW b t))) rfl (by kernel_rfl) (by kernel_rfl) (by kernel_rfl) (fun _ _ _ h => h) (by rfl) ?_ (by assumption) ?_
      · intro w' hSw
        obtain ⟨r0, r1, r2⟩ := hSw
        go_simp
      simp only [Act.put, List.setIfInBounds_toArray, List.set_cons_zero, List.set_cons_succ]
      refine take_do (i := 6) (v := (.complex .f64 a (Fl.mulW b t))) rfl (by kernel_rfl) (by kernel_rfl) (by kernel_rfl) (fun _ _ _ h => h) (by rfl) ?_ (by assumption) ?_
      · intro w' hSw
        obtain ⟨r0, r1, r2⟩ := hSw
        go_simp
      simp only [Act.put, List.setIfInBounds_toArray, List.set_cons_zero, List.set_cons_succ]
      refine take_do (i := 7) (v := (.complex .f64 (Fl.addW 0 (Fl.qRe p q)) (Fl.addW (Fl.mulW c t) (Fl.qIm p q)))) rfl (by kernel_rfl) (by kernel_rfl) (by kernel_rfl) (fun _ _ _ h => h) (by rfl) ?_ (by assumption) ?_
      · intro w' hSw
        obtain ⟨r0, r1, r2⟩ := hSw
        go_simp
      simp only [Act.put, List.setIfInBounds_toArray, List.set_cons_zero, List.set_cons_succ]
      refine take_call (i := 8) rfl (by kernel_rfl) (fun K2 hK => ?_)
      go_simp
      refine (quotOne_any _ _ _ HY.out.1 HY.out.2).mono ?_
      rintro e w' ⟨rfl, k, rfl⟩
      go_wp2_with fail
      refine hK.out _ _ ⟨c0, c1, bt⟩ (fun hHeld2 => ?_)
      clear hK hHeld
      have hHeld := hHeld2
      clear hHeld2
      refine take_do (i := 9) (v := (.complex .f64 (Fl.zRe a (Fl.mulW c t) p q) (Fl.zIm (Fl.mulW b t) (Fl.mulW c t) p q))) rfl (by kernel_rfl) (by kernel_rfl) (by kernel_rfl) (fun _ _ _ h => h) (by rfl) ?_ (by assumption) ?_
      · intro w' hSw
        obtain ⟨r0, r1, r2⟩ := hSw
        go_simp
      simp only [Act.put, List.setIfInBounds_toArray, List.set_cons_zero, List.set_cons_succ]
      refine take_call (i := 10) rfl (by kernel_rfl) (fun K2 hK => ?_)
      go_simp
      refine hK.out _ _ ⟨(World.cell?_setCell_far _ _ _ _ NE.out.1).trans c0, (World.cell?_setCell_far _ _ _ _ NE.out.1).trans c1, (World.cell?_setCell_far _ _ _ _ NE.out.2).trans bt⟩ (fun _ => wpAnyH_done (by kernel_rfl) (FIN.out _) _)
    · rw [e1, e2 (Fl.mulW c t)] at s2 HY
      clear e1 e2
      gi_wp2_with (refine ⟨trivial, ?_⟩; gi_at_call 32; refine (CallsIn.inRound l (callsIn_wide.2 (quotOne_any _ _ _ HP.out.1 HP.out.2))).mono ?_; rintro e w' ⟨rfl, k1, rfl⟩)
      have hmx : Try.prog.follows .mixedOrders = true := by kernel_rfl
      refine region_round (S := fun V => V.cell? ⟨Bx, 0, none⟩ = some (.float .f64 a) ∧ V.cell? ⟨Bx, 1, none⟩ = some (.float .f64 b) ∧ V.cell? ⟨w.heap.size, 0, none⟩ = some (.float .f64 t)) hmx (by kernel_rfl) (by rintro ⟨_, _, h⟩; exact h) ⟨c0, c1, bt⟩ (fun hHeld => ?_)
      refine take_do (i := 0) (v := (.pointer (some ⟨Bx, 0, none⟩))) rfl (by kernel_rfl) (by kernel_rfl) (by kernel_rfl) (fun _ _ _ h => h) (by rfl) ?_ (by assumption) ?_
      · intro w' hSw
        obtain ⟨r0, r1, r2⟩ := hSw
        go_simp
      simp only [Act.put, List.setIfInBounds_toArray, List.set_cons_zero, List.set_cons_succ]
      refine take_do (i := 1) (v := (.float .f64 a)) rfl (by kernel_rfl) (by kernel_rfl) (by kernel_rfl) (fun _ _ _ h => h) (by rfl) ?_ (by assumption) ?_
      · intro w' hSw
        obtain ⟨r0, r1, r2⟩ := hSw
        go_simp
      simp only [Act.put, List.setIfInBounds_toArray, List.set_cons_zero, List.set_cons_succ]
      refine take_do (i := 2) (v := (.pointer (some ⟨Bx, 1, none⟩))) rfl (by kernel_rfl) (by kernel_rfl) (by kernel_rfl) (fun _ _ _ h => h) (by rfl) ?_ (by assumption) ?_
      · intro w' hSw
        obtain ⟨r0, r1, r2⟩ := hSw
        go_simp
      simp only [Act.put, List.setIfInBounds_toArray, List.set_cons_zero, List.set_cons_succ]
      refine take_do (i := 3) (v := (.float .f64 b)) rfl (by kernel_rfl) (by kernel_rfl) (by kernel_rfl) (fun _ _ _ h => h) (by rfl) ?_ (by assumption) ?_
      · intro w' hSw
        obtain ⟨r0, r1, r2⟩ := hSw
        go_simp
      simp only [Act.put, List.setIfInBounds_toArray, List.set_cons_zero, List.set_cons_succ]
      refine take_do (i := 4) (v := (.float .f64 t)) rfl (by kernel_rfl) (by kernel_rfl) (by kernel_rfl) (fun _ _ _ h => h) (by rfl) ?_ (by assumption) ?_
      · intro w' hSw
        obtain ⟨r0, r1, r2⟩ := hSw
        go_simp
      simp only [Act.put, List.setIfInBounds_toArray, List.set_cons_zero, List.set_cons_succ]
      refine take_do (i := 5) (v := (.float .f64 (Fl.mulW b t))) rfl (by kernel_rfl) (by kernel_rfl) (by kernel_rfl) (fun _ _ _ h => h) (by rfl) ?_ (by assumption) ?_
      · intro w' hSw
        obtain ⟨r0, r1, r2⟩ := hSw
        go_simp
      simp only [Act.put, List.setIfInBounds_toArray, List.set_cons_zero, List.set_cons_succ]
      refine take_do (i := 6) (v := (.complex .f64 a (Fl.mulW b t))) rfl (by kernel_rfl) (by kernel_rfl) (by kernel_rfl) (fun _ _ _ h => h) (by rfl) ?_ (by assumption) ?_
      · intro w' hSw
        obtain ⟨r0, r1, r2⟩ := hSw
        go_simp
      simp only [Act.put, List.setIfInBounds_toArray, List.set_cons_zero, List.set_cons_succ]
      refine take_do (i := 7) (v := (.complex .f64 (Fl.addW 0 (Fl.qRe p q)) (Fl.addW (Fl.mulW c t) (Fl.qIm p q)))) rfl (by kernel_rfl) (by kernel_rfl) (by kernel_rfl) (fun _ _ _ h => h) (by rfl) ?_ (by assumption) ?_
      · intro w' hSw
        obtain ⟨r0, r1, r2⟩ := hSw
        go_simp
      simp only [Act.put, List.setIfInBounds_toArray, List.set_cons_zero, List.set_cons_succ]
      refine take_call (i := 8) rfl (by kernel_rfl) (fun K2 hK => ?_)
      go_simp
      refine (quotOne_any _ _ _ HY.out.1 HY.out.2).mono ?_
      rintro e w' ⟨rfl, k, rfl⟩
      go_wp2_with fail
      refine hK.out _ _ ⟨c0, c1, bt⟩ (fun hHeld2 => ?_)
      clear hK hHeld
      have hHeld := hHeld2
      clear hHeld2
      refine take_do (i := 9) (v := (.complex .f64 (Fl.zRe a (Fl.mulW c t) p q) (Fl.zIm (Fl.mulW b t) (Fl.mulW c t) p q))) rfl (by kernel_rfl) (by kernel_rfl) (by kernel_rfl) (fun _ _ _ h => h) (by rfl) ?_ (by assumption) ?_
      · intro w' hSw
        obtain ⟨r0, r1, r2⟩ := hSw
        go_simp
      simp only [Act.put, List.setIfInBounds_toArray, List.set_cons_zero, List.set_cons_succ]
      refine take_call (i := 10) rfl (by kernel_rfl) (fun K2 hK => ?_)
      go_simp
      refine hK.out _ _ ⟨(World.cell?_setCell_far _ _ _ _ NE.out.1).trans c0, (World.cell?_setCell_far _ _ _ _ NE.out.1).trans c1, (World.cell?_setCell_far _ _ _ _ NE.out.2).trans bt⟩ (fun _ => wpAnyH_done (by kernel_rfl) (FIN.out _) _)
    · rw [e1, e2 (Fl.mulW c t)] at s2 HY
      clear e1 e2
      gi_wp2_with (refine ⟨trivial, ?_⟩; gi_at_call 32; refine (CallsIn.inRound l (callsIn_wide.2 (quotOne_any _ _ _ HP.out.1 HP.out.2))).mono ?_; rintro e w' ⟨rfl, k1, rfl⟩)
      have hmx : Try.prog.follows .mixedOrders = true := by kernel_rfl
      refine region_round (S := fun V => V.cell? ⟨Bx, 0, none⟩ = some (.float .f64 a) ∧ V.cell? ⟨Bx, 1, none⟩ = some (.float .f64 b) ∧ V.cell? ⟨w.heap.size, 0, none⟩ = some (.float .f64 t)) hmx (by kernel_rfl) (by rintro ⟨_, _, h⟩; exact h) ⟨c0, c1, bt⟩ (fun hHeld => ?_)
      refine take_do (i := 0) (v := (.pointer (some ⟨Bx, 0, none⟩))) rfl (by kernel_rfl) (by kernel_rfl) (by kernel_rfl) (fun _ _ _ h => h) (by rfl) ?_ (by assumption) ?_
      · intro w' hSw
        obtain ⟨r0, r1, r2⟩ := hSw
        go_simp
      simp only [Act.put, List.setIfInBounds_toArray, List.set_cons_zero, List.set_cons_succ]
      refine take_do (i := 1) (v := (.float .f64 a)) rfl (by kernel_rfl) (by kernel_rfl) (by kernel_rfl) (fun _ _ _ h => h) (by rfl) ?_ (by assumption) ?_
      · intro w' hSw
        obtain ⟨r0, r1, r2⟩ := hSw
        go_simp
      simp only [Act.put, List.setIfInBounds_toArray, List.set_cons_zero, List.set_cons_succ]
      refine take_do (i := 2) (v := (.pointer (some ⟨Bx, 1, none⟩))) rfl (by kernel_rfl) (by kernel_rfl) (by kernel_rfl) (fun _ _ _ h => h) (by rfl) ?_ (by assumption) ?_
      · intro w' hSw
        obtain ⟨r0, r1, r2⟩ := hSw
        go_simp
      simp only [Act.put, List.setIfInBounds_toArray, List.set_cons_zero, List.set_cons_succ]
      refine take_do (i := 3) (v := (.float .f64 b)) rfl (by kernel_rfl) (by kernel_rfl) (by kernel_rfl) (fun _ _ _ h => h) (by rfl) ?_ (by assumption) ?_
      · intro w' hSw
        obtain ⟨r0, r1, r2⟩ := hSw
        go_simp
      simp only [Act.put, List.setIfInBounds_toArray, List.set_cons_zero, List.set_cons_succ]
      refine take_do (i := 4) (v := (.float .f64 t)) rfl (by kernel_rfl) (by kernel_rfl) (by kernel_rfl) (fun _ _ _ h => h) (by rfl) ?_ (by assumption) ?_
      · intro w' hSw
        obtain ⟨r0, r1, r2⟩ := hSw
        go_simp
      simp only [Act.put, List.setIfInBounds_toArray, List.set_cons_zero, List.set_cons_succ]
      refine take_do (i := 5) (v := (.float .f64 (Fl.mulW b t))) rfl (by kernel_rfl) (by kernel_rfl) (by kernel_rfl) (fun _ _ _ h => h) (by rfl) ?_ (by assumption) ?_
      · intro w' hSw
        obtain ⟨r0, r1, r2⟩ := hSw
        go_simp
      simp only [Act.put, List.setIfInBounds_toArray, List.set_cons_zero, List.set_cons_succ]
      refine take_do (i := 6) (v := (.complex .f64 a (Fl.mulW b t))) rfl (by kernel_rfl) (by kernel_rfl) (by kernel_rfl) (fun _ _ _ h => h) (by rfl) ?_ (by assumption) ?_
      · intro w' hSw
        obtain ⟨r0, r1, r2⟩ := hSw
        go_simp
      simp only [Act.put, List.setIfInBounds_toArray, List.set_cons_zero, List.set_cons_succ]
      refine take_do (i := 7) (v := (.complex .f64 (Fl.addW 0 (Fl.qRe p q)) (Fl.addW (Fl.mulW c t) (Fl.qIm p q)))) rfl (by kernel_rfl) (by kernel_rfl) (by kernel_rfl) (fun _ _ _ h => h) (by rfl) ?_ (by assumption) ?_
      · intro w' hSw
        obtain ⟨r0, r1, r2⟩ := hSw
        go_simp
      simp only [Act.put, List.setIfInBounds_toArray, List.set_cons_zero, List.set_cons_succ]
      refine take_call (i := 8) rfl (by kernel_rfl) (fun K2 hK => ?_)
      go_simp
      refine (quotOne_any _ _ _ HY.out.1 HY.out.2).mono ?_
      rintro e w' ⟨rfl, k, rfl⟩
      go_wp2_with fail
      refine hK.out _ _ ⟨c0, c1, bt⟩ (fun hHeld2 => ?_)
      clear hK hHeld
      have hHeld := hHeld2
      clear hHeld2
      refine take_do (i := 9) (v := (.complex .f64 (Fl.zRe a (Fl.mulW c t) p q) (Fl.zIm (Fl.mulW b t) (Fl.mulW c t) p q))) rfl (by kernel_rfl) (by kernel_rfl) (by kernel_rfl) (fun _ _ _ h => h) (by rfl) ?_ (by assumption) ?_
      · intro w' hSw
        obtain ⟨r0, r1, r2⟩ := hSw
        go_simp
      simp only [Act.put, List.setIfInBounds_toArray, List.set_cons_zero, List.set_cons_succ]
      refine take_call (i := 10) rfl (by kernel_rfl) (fun K2 hK => ?_)
      go_simp
      refine hK.out _ _ ⟨(World.cell?_setCell_far _ _ _ _ NE.out.1).trans c0, (World.cell?_setCell_far _ _ _ _ NE.out.1).trans c1, (World.cell?_setCell_far _ _ _ _ NE.out.2).trans bt⟩ (fun _ => wpAnyH_done (by kernel_rfl) (FIN.out _) _)
    · rw [e1, e2 (Fl.mulW c t)] at s2 HY
      clear e1 e2
      gi_wp2_with (refine ⟨trivial, ?_⟩; gi_at_call 32; refine (CallsIn.inRound l (callsIn_wide.2 (quotOne_any _ _ _ HP.out.1 HP.out.2))).mono ?_; rintro e w' ⟨rfl, k1, rfl⟩)
      have hmx : Try.prog.follows .mixedOrders = true := by kernel_rfl
      refine region_round (S := fun V => V.cell? ⟨Bx, 0, none⟩ = some (.float .f64 a) ∧ V.cell? ⟨Bx, 1, none⟩ = some (.float .f64 b) ∧ V.cell? ⟨w.heap.size, 0, none⟩ = some (.float .f64 t)) hmx (by kernel_rfl) (by rintro ⟨_, _, h⟩; exact h) ⟨c0, c1, bt⟩ (fun hHeld => ?_)
      refine take_do (i := 0) (v := (.pointer (some ⟨Bx, 0, none⟩))) rfl (by kernel_rfl) (by kernel_rfl) (by kernel_rfl) (fun _ _ _ h => h) (by rfl) ?_ (by assumption) ?_
      · intro w' hSw
        obtain ⟨r0, r1, r2⟩ := hSw
        go_simp
      simp only [Act.put, List.setIfInBounds_toArray, List.set_cons_zero, List.set_cons_succ]
      refine take_do (i := 1) (v := (.float .f64 a)) rfl (by kernel_rfl) (by kernel_rfl) (by kernel_rfl) (fun _ _ _ h => h) (by rfl) ?_ (by assumption) ?_
      · intro w' hSw
        obtain ⟨r0, r1, r2⟩ := hSw
        go_simp
      simp only [Act.put, List.setIfInBounds_toArray, List.set_cons_zero, List.set_cons_succ]
      refine take_do (i := 2) (v := (.pointer (some ⟨Bx, 1, none⟩))) rfl (by kernel_rfl) (by kernel_rfl) (by kernel_rfl) (fun _ _ _ h => h) (by rfl) ?_ (by assumption) ?_
      · intro w' hSw
        obtain ⟨r0, r1, r2⟩ := hSw
        go_simp
      simp only [Act.put, List.setIfInBounds_toArray, List.set_cons_zero, List.set_cons_succ]
      refine take_do (i := 3) (v := (.float .f64 b)) rfl (by kernel_rfl) (by kernel_rfl) (by kernel_rfl) (fun _ _ _ h => h) (by rfl) ?_ (by assumption) ?_
      · intro w' hSw
        obtain ⟨r0, r1, r2⟩ := hSw
        go_simp
      simp only [Act.put, List.setIfInBounds_toArray, List.set_cons_zero, List.set_cons_succ]
      refine take_do (i := 4) (v := (.float .f64 t)) rfl (by kernel_rfl) (by kernel_rfl) (by kernel_rfl) (fun _ _ _ h => h) (by rfl) ?_ (by assumption) ?_
      · intro w' hSw
        obtain ⟨r0, r1, r2⟩ := hSw
        go_simp
      simp only [Act.put, List.setIfInBounds_toArray, List.set_cons_zero, List.set_cons_succ]
      refine take_do (i := 5) (v := (.float .f64 (Fl.mulW b t))) rfl (by kernel_rfl) (by kernel_rfl) (by kernel_rfl) (fun _ _ _ h => h) (by rfl) ?_ (by assumption) ?_
      · intro w' hSw
        obtain ⟨r0, r1, r2⟩ := hSw
        go_simp
      simp only [Act.put, List.setIfInBounds_toArray, List.set_cons_zero, List.set_cons_succ]
      refine take_do (i := 6) (v := (.complex .f64 a (Fl.mulW b t))) rfl (by kernel_rfl) (by kernel_rfl) (by kernel_rfl) (fun _ _ _ h => h) (by rfl) ?_ (by assumption) ?_
      · intro w' hSw
        obtain ⟨r0, r1, r2⟩ := hSw
        go_simp
      simp only [Act.put, List.setIfInBounds_toArray, List.set_cons_zero, List.set_cons_succ]
      refine take_do (i := 7) (v := (.complex .f64 (Fl.addW 0 (Fl.qRe p q)) (Fl.addW (Fl.mulW c t) (Fl.qIm p q)))) rfl (by kernel_rfl) (by kernel_rfl) (by kernel_rfl) (fun _ _ _ h => h) (by rfl) ?_ (by assumption) ?_
      · intro w' hSw
        obtain ⟨r0, r1, r2⟩ := hSw
        go_simp
      simp only [Act.put, List.setIfInBounds_toArray, List.set_cons_zero, List.set_cons_succ]
      refine take_call (i := 8) rfl (by kernel_rfl) (fun K2 hK => ?_)
      go_simp
      refine (quotOne_any _ _ _ HY.out.1 HY.out.2).mono ?_
      rintro e w' ⟨rfl, k, rfl⟩
      go_wp2_with fail
      refine hK.out _ _ ⟨c0, c1, bt⟩ (fun hHeld2 => ?_)
      clear hK hHeld
      have hHeld := hHeld2
      clear hHeld2
      refine take_do (i := 9) (v := (.complex .f64 (Fl.zRe a (Fl.mulW c t) p q) (Fl.zIm (Fl.mulW b t) (Fl.mulW c t) p q))) rfl (by kernel_rfl) (by kernel_rfl) (by kernel_rfl) (fun _ _ _ h => h) (by rfl) ?_ (by assumption) ?_
      · intro w' hSw
        obtain ⟨r0, r1, r2⟩ := hSw
        go_simp
      simp only [Act.put, List.setIfInBounds_toArray, List.set_cons_zero, List.set_cons_succ]
      refine take_call (i := 10) rfl (by kernel_rfl) (fun K2 hK => ?_)
      go_simp
      refine hK.out _ _ ⟨(World.cell?_setCell_far _ _ _ _ NE.out.1).trans c0, (World.cell?_setCell_far _ _ _ _ NE.out.1).trans c1, (World.cell?_setCell_far _ _ _ _ NE.out.2).trans bt⟩ (fun _ => wpAnyH_done (by kernel_rfl) (FIN.out _) _)
  case done =>
    rintro D xs W hD rfl ⟨⟨hi, hB⟩, hw⟩ hK
    have bz := hi.1.1.cell
    have HR : Hid (W.heap[w.heap.size + 1]? = some (.cells #[.float .f64 0, .float .f64 0] 33 (0, 0))) := hi.2
    have HBW := Lib.hid hB
    have HK := Lib.hid hK
    have HD : Hid (w.heap.size + 1 < D) := by show _ < _; have := HSZ.out; omega
    have HWS : Hid (w.heap.size + 1 < W.heap.size) := by show _ < _; have := HSZ.out; omega
    clear hi hB hK hD
    gi_wp2_with fail
    refine ⟨trivial, (callsIn_wide.2 (tell_any _ _ _)).mono ?_⟩
    rintro e w3 ⟨rfl, hb⟩
    have R3 : w3.heap[w.heap.size + 1]? = some (.cells #[.float .f64 0, .float .f64 0] 33 (0, 0)) := (hb.block _ HWS.out).trans HR.out
    have K3 : Hid (w3.heap[D]? = some (.deferred (some []))) := (hb.block _ (Array.getElem?_eq_some_iff.1 HK.out).1).trans HK.out
    have B3 : Hid (Below w.heap.size w w3) := HBW.out.trans (hb.mono HBW.out.size)
    have d0 : w3.cell? ⟨w.heap.size + 1, 0, none⟩ = some (.float .f64 0) := by simp [World.cell?, R3]
    have d1 : w3.cell? ⟨w.heap.size + 1, 1, none⟩ = some (.float .f64 0) := by simp [World.cell?, R3]
    have f0 : w3.frozen? ⟨w.heap.size + 1, 0, none⟩ = false := by simp [World.frozen?, R3]
    have f1 : w3.frozen? ⟨w.heap.size + 1, 1, none⟩ = false := by simp [World.frozen?, R3]
    clear hb R3 bz
    gi_wp2_with fail
    generalize (ladL f t (dn n n)).1 = X at *
    generalize (ladL f t (dn n n)).2 = Y at *
    have hK' : ((w3.setCell ⟨w.heap.size + 1, 0, none⟩ (.float .f64 X)).setCell ⟨w.heap.size + 1, 1, none⟩ (.float .f64 Y)).heap[D]? = some (.deferred (some [])) := ((KeepsOthers.setCell _ _ _).trans (KeepsOthers.setCell _ _ _)).same D _ K3.out rfl
    have x0 : ((w3.setCell ⟨w.heap.size + 1, 0, none⟩ (.float .f64 X)).setCell ⟨w.heap.size + 1, 1, none⟩ (.float .f64 Y)).cell? ⟨w.heap.size + 1, 0, none⟩ = some (.float .f64 X) := by
      rw [World.cell?_setCell_other _ _ _ _ (by simp)]
      exact World.cell?_setCell_same' _ _ _ (by rw [d0]; rfl)
    have x1 : ((w3.setCell ⟨w.heap.size + 1, 0, none⟩ (.float .f64 X)).setCell ⟨w.heap.size + 1, 1, none⟩ (.float .f64 Y)).cell? ⟨w.heap.size + 1, 1, none⟩ = some (.float .f64 Y) := World.cell?_setCell_same' _ _ _ (by rw [World.cell?_setCell_other _ _ _ _ (by simp), d1]; rfl)
    have HB4 : Hid (Below w.heap.size w ((w3.setCell ⟨w.heap.size + 1, 0, none⟩ (.float .f64 X)).setCell ⟨w.heap.size + 1, 1, none⟩ (.float .f64 Y))) := lbelow_set2 B3.out (by omega) _ _
    clear d0 d1 f0 f1
    generalize (w3.setCell ⟨w.heap.size + 1, 0, none⟩ (.float .f64 X)).setCell ⟨w.heap.size + 1, 1, none⟩ (.float .f64 Y) = W4 at *
    refine ⟨by simp, .inl ⟨_, _, rfl, run_takeDeferred hK', ?_⟩⟩
    have g0 := cell_kept x0 (grownBy_putObj' _ D (.deferred none)) (fun r e => by cases e; exact ⟨_, hK', rfl⟩)
    have g1 := cell_kept x1 (grownBy_putObj' _ D (.deferred none)) (fun r e => by cases e; exact ⟨_, hK', rfl⟩)
    refine ⟨cnV X Y, ?_, rfl, HB4.out.trans (belowK_b (w := w) (Nat.le_refl _) _ D _ _ (by have := HD.out; omega) hK' rfl rfl)⟩
    simp [results, Try.f15, go_sem, g0, g1]
  case stop =>
    rintro D c pre W hD _ h _
    exact h.elim
end Go.Proofs.Ythcgffnkpeiddaa
