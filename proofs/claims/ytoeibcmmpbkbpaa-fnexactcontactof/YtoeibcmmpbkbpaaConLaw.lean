/-
  The law FnExactContactOf.
-/
import Derived.Test.YtoeibcmmpbkbpaaCon
import Derived.ProofKit
import Derived.OpenShut
import Derived.Deep.Slices
namespace Go.Proofs.Ytoeibcmmpbkbpaa
open Go.RowKit Go.Deep

set_option maxHeartbeats 400000 in
theorem csame_any (x : Nat) (w : World) :
    Calls Try.prog 20 #[.float .f64 x, .float .f64 x] w fun e w' => e = .returned (.bool true) ∧ w' = w := by
  by_cases h1 : FloatKind.f64.format.order x x = some .eq
  · by_cases h2 : FloatKind.f64.format.order x 0 = some .eq
    · obtain ⟨r, hr⟩ := Fl.div_zero x h2
      have hq := fun (wx : World) => run_float_arith (P := Try.prog) (w := wx) .quo 44 .f64 4607182418800017408 x r hr
      clear hr
      go_enter Try.func20, Try.ntmps20
      go_wp2
      go_ret
      exact ⟨rfl, rfl⟩
    · go_enter Try.func20, Try.ntmps20
      go_wp2
      go_ret
      exact ⟨rfl, rfl⟩
  · have h1' : (FloatKind.f64.format.order x x != some .eq) = true := by simpa using h1
    go_enter Try.func20, Try.ntmps20
    go_wp2
    go_ret
    exact ⟨rfl, rfl⟩

/-- A float is stored as any value of one cell. -/
theorem crun_store_float {P : Program} {w : World} {a : Addr} {m : Mode} (k : FloatKind) (x : Nat) : (store a (.float k x) m).run P w = stored P w a (.float k x) m := run_store P w a _ m rfl
attribute [local go_sem] crun_store_float

theorem cinfo_f64 : (Try.prog.info? 44).map (fun i => (i.zero, i.size, i.bytes)) = some (some (.float .f64 0), 1, 8) := by kernel_rfl

set_option maxHeartbeats 1000000 in
theorem ctoF_any (a : Option Addr) (b off n cap : Nat) (zs : List Nat) (w : World) (ha : 0 < n → a = some ⟨b, off, none⟩) (hc : ∀ i, i < n → w.cell? ⟨b, off + i, none⟩ = some (.float .f64 (Fl.el zs i))) (hn : n ≤ 1048576) :
    Calls Try.prog 18 #[.slice a n cap] w fun e w' => e = .returned (.slice (some ⟨w.heap.size, 0, none⟩) n n) ∧ w'.rowIs w.heap.size 44 n (fun i => .float .f64 (Fl.el zs i)) ∧ Below w.heap.size w w' := by
  have hmk := run_make_row' (P := Try.prog) 43 44 (.float .f64 0) 8 Try.underlying43 cinfo_f64 rfl .i64 .i64 n (by omega) (by omega)
  go_enter Try.func18, Try.ntmps18
  go_wp2
  clear hmk
  go_loopw [4] (fun i wx => ∃ k : Nat, k ≤ n ∧ i = .int .i64 k ∧ wx.rowIs w.heap.size 44 n (fun j => .float .f64 (if j < k then Fl.el zs j else 0)) ∧ Below w.heap.size w wx) (fun i _ => n - (intOf i).toNat)
  case atStart => exact ⟨0, Nat.zero_le _, rfl, (World.rowIs_made w (.float .f64 0) n 44).congr (fun i _ => by simp), (Below.refl _ _).alloc (Nat.le_refl _) _⟩
  case round =>
    obtain ⟨k, hk, rfl, hrow, hbel⟩ := hrel
    by_cases hlt : k < n
    · obtain rfl := ha (by omega)
      have hltz : (k : Int) < (n : Int) := by omega
      have hblt : b < w.heap.size := World.block_lt_of_cell? _ _ (hc k hlt)
      have c0 := (hbel.cell (p := ⟨b, off + k, none⟩) hblt).trans (hc k hlt)
      have c1 := hrow.cell hlt
      have c2 := hrow.frozen k
      have Hrow : Hid (World.rowIs _ w.heap.size 44 n _) := hrow
      clear hrow
      go_wp2
      go_roundw
      case rel => exact ⟨k + 1, by omega, by go_num, (Hrow.out.set k _).congr (fun j hj => by
        by_cases e : j = k
        · subst e; simp
        · rw [if_neg e]; congr 1; by_cases e2 : j < k
          · rw [if_pos e2, if_pos (by omega)]
          · rw [if_neg e2, if_neg (by omega)]), hbel.setCell (Nat.le_refl _) _⟩
      case measure => simp [intOf]; omega
    · obtain rfl : k = n := by omega
      have Hrow : Hid (World.rowIs _ w.heap.size 44 k _) := hrow
      clear hrow
      go_wp2
      go_ret
      exact ⟨rfl, Hrow.out.congr (fun j hj => by rw [if_pos hj]), hbel⟩

set_option maxHeartbeats 1000000 in
theorem ceqF_any (b1 b2 n c1 c2 : Nat) (zs : List Nat) (w : World) (h1 : ∀ i, i < n → w.cell? ⟨b1, i, none⟩ = some (.float .f64 (Fl.el zs i))) (h2 : ∀ i, i < n → w.cell? ⟨b2, i, none⟩ = some (.float .f64 (Fl.el zs i))) (hn : n ≤ 1048576) :
    Calls Try.prog 21 #[.slice (some ⟨b1, 0, none⟩) n c1, .slice (some ⟨b2, 0, none⟩) n c2] w fun e w' => e = .returned (.bool true) ∧ ∃ m, w' = w.drewN m := by
  have hne : ((n : Int) != (n : Int)) = false := by simp
  go_enter Try.func21, Try.ntmps21
  go_wp2
  go_loopw [5] (fun i wx => ∃ k m : Nat, k ≤ n ∧ i = .int .i64 k ∧ wx = w.drewN m) (fun i _ => n - (intOf i).toNat)
  case atStart => exact ⟨0, 0, Nat.zero_le _, rfl, rfl⟩
  case round =>
    obtain ⟨k, m, hk, rfl, hw⟩ := hrel
    have Hw : Hid (_ = w.drewN m) := hw
    by_cases hlt : k < n
    · have hltz : (k : Int) < (n : Int) := by omega
      have hk0 : (0 : Int) ≤ (k : Int) := by omega
      have g1 : World.cell? _ ⟨b1, k, none⟩ = some (.float .f64 (Fl.el zs k)) := (congrArg (fun v => World.cell? v ⟨b1, k, none⟩) hw).trans (h1 k hlt)
      have g2 : World.cell? _ ⟨b2, k, none⟩ = some (.float .f64 (Fl.el zs k)) := (congrArg (fun v => World.cell? v ⟨b2, k, none⟩) hw).trans (h2 k hlt)
      clear hw
      go_wp2_with fail
      go_quiet ((go_at_call 20; exact Calls.quiet_of_same (csame_any _ _)))
      go_wp2
      go_roundw
      case rel => exact ⟨k + 1, _, by omega, by go_num, by rw [Hw.out]; exact World.drewN_drewN _ _ _⟩
      case measure => simp [intOf]; omega
    · clear hw
      go_wp2
      go_ret
      exact ⟨rfl, m, Hw.out⟩

open Classical in
noncomputable def conAns (n m : Nat) (f g : List Nat) : Nat := if NoCon n m then 0 else Con.conTo f g n
theorem implCon_all (b1 b2 n m c1 c2 : Nat) (f g : List Nat) (w : World) (h1 : ∀ i, i < n → w.cell? ⟨b1, i, none⟩ = some (.float .f64 (Fl.el f i))) (h2 : ∀ i, i < m → w.cell? ⟨b2, i, none⟩ = some (.float .f64 (Fl.el g i))) :
    Calls Try.prog 19 #[.slice (some ⟨b1, 0, none⟩) n c1, .slice (some ⟨b2, 0, none⟩) m c2] w fun e w' => e = .returned (.float .f64 (conAns n m f g)) ∧ Below w.heap.size w w' := by
  unfold conAns
  by_cases h : NoCon n m
  · rw [if_pos h]
    exact (implCon_no _ _ n m c1 c2 w h).mono fun e w' ⟨e1, e2⟩ => ⟨e1, by rw [e2]; exact Below.refl _ _⟩
  · rw [if_neg h]
    unfold NoCon at h
    obtain rfl : n = m := by omega
    exact (implCon_any b1 b2 n c1 c2 f g w h1 h2 (by omega)).mono fun e w' ⟨e1, e2⟩ => ⟨e1, by rw [e2]; exact Below.refl _ _⟩
theorem sCon_all (b1 b2 n m c1 c2 : Nat) (f g : List Nat) (w : World) (h1 : ∀ i, i < n → w.cell? ⟨b1, i, none⟩ = some (.float .f64 (Fl.el f i))) (h2 : ∀ i, i < m → w.cell? ⟨b2, i, none⟩ = some (.float .f64 (Fl.el g i))) :
    Calls Try.prog 17 #[.slice (some ⟨b1, 0, none⟩) n c1, .slice (some ⟨b2, 0, none⟩) m c2] w fun e w' => e = .returned (.float .f64 (conAns n m f g)) ∧ Below w.heap.size w w' := by
  unfold conAns
  by_cases h : NoCon n m
  · rw [if_pos h]
    exact (sCon_no _ _ n m c1 c2 w h).mono fun e w' ⟨e1, e2⟩ => ⟨e1, by rw [e2]; exact Below.refl _ _⟩
  · rw [if_neg h]
    unfold NoCon at h
    obtain rfl : n = m := by omega
    exact (sCon_any b1 b2 n c1 c2 f g w h1 h2 (by omega)).mono fun e w' ⟨e1, q, e2⟩ => ⟨e1, by rw [e2]; exact below_drewN (Below.refl _ _) q⟩
/-- Floats that came in. -/
def FlsIn (a : Option Addr) (n : Nat) (zs : List Nat) (w : World) : Prop := ∃ b off, (0 < n → a = some ⟨b, off, none⟩) ∧ ∀ i, i < n → w.cell? ⟨b, off + i, none⟩ = some (.float .f64 (Fl.el zs i))
theorem FlsIn.below {a : Option Addr} {n : Nat} {zs : List Nat} {w w' : World} (h : FlsIn a n zs w) (hb : Below w.heap.size w w') : FlsIn a n zs w' := by
  obtain ⟨b, off, h1, h2⟩ := h
  exact ⟨b, off, h1, fun i hi => (hb.cell (World.block_lt_of_cell? _ _ (h2 i hi))).trans (h2 i hi)⟩
theorem toFls_any (a : Option Addr) (n cap : Nat) (zs : List Nat) (w : World) (h : FlsIn a n zs w) (hn : n ≤ 1048576) :
    Calls Try.prog 18 #[.slice a n cap] w fun e w' => e = .returned (.slice (some ⟨w.heap.size, 0, none⟩) n n) ∧ w'.rowIs w.heap.size 44 n (fun i => .float .f64 (Fl.el zs i)) ∧ Below w.heap.size w w' := by
  obtain ⟨b, off, h1, h2⟩ := h
  exact ctoF_any a b off n cap zs w h1 h2 hn
theorem frow_below {w w' : World} {g : Nat} {t : TypeId} {m : Nat} {F : Nat → Value} (h : w.rowIs g t m F) (hb : Below w.heap.size w w') : w'.rowIs g t m F := h.of_block (hb.block _ h.lt)
set_option maxRecDepth 100000 in
set_option maxHeartbeats 4000000 in
theorem con_law (w : World) (a : Option Addr) (n c1 : Nat) (f : List Nat) (h1 : FlsIn a n f w) (_u1 : n ≤ 9223372036854775807) (b : Option Addr) (m c2 : Nat) (g : List Nat) (h2 : FlsIn b m g w) (_u2 : m ≤ 9223372036854775807) :
    Calls Try.prog 5 #[.slice a n c1, .slice b m c2] w fun e w' => e = .returned (.bool true) ∧ Below w.heap.size w w' := by
  clear _u1 _u2
  by_cases hn : 1048576 < n
  · have hz : (1048576 : Int) < (n : Int) := by omega
    clear h1 h2
    go_enter Try.func5, Try.ntmps5
    go_wp2_with fail
    go_ret
    exact ⟨rfl, Below.refl _ _⟩
  have hz : ¬ (1048576 : Int) < (n : Int) := by omega
  by_cases hm : 1048576 < m
  · have hz2 : (1048576 : Int) < (m : Int) := by omega
    clear h1 h2
    go_enter Try.func5, Try.ntmps5
    go_wp2_with fail
    go_ret
    exact ⟨rfl, Below.refl _ _⟩
  have hz2 : ¬ (1048576 : Int) < (m : Int) := by omega
  have H1 := Lib.hid h1
  have H2 := Lib.hid h2
  have HN : Hid (n ≤ 1048576 ∧ m ≤ 1048576) := ⟨by omega, by omega⟩
  clear h1 h2 hn hm
  go_enter Try.func5, Try.ntmps5
  go_wp2_with fail
  refine (toFls_any a n c1 f _ H1.out HN.out.1).mono ?_
  rintro e w1 ⟨rfl, hr1, hb1⟩
  have HR1 := Lib.hid hr1
  have HB1 := Lib.hid hb1
  clear hr1 hb1
  go_wp2_with fail
  refine (toFls_any b m c2 g _ (H2.out.below HB1.out) HN.out.2).mono ?_
  rintro e w2 ⟨rfl, hr2, hb2⟩
  have HR1b := Lib.hid (frow_below HR1.out hb2)
  have HR2 := Lib.hid hr2
  have HB2 : Hid (Below w.heap.size w w2) := HB1.out.trans (hb2.mono HB1.out.size)
  clear hr2 hb2
  go_wp2_with fail
  refine (sCon_all _ _ n m n m f g _ (fun i hi => HR1b.out.cell hi) (fun i hi => HR2.out.cell hi)).mono ?_
  rintro e w3 ⟨rfl, hb3⟩
  have HB3 : Hid (Below w.heap.size w w3) := HB2.out.trans (hb3.mono HB2.out.size)
  clear hb3 HR1 HR1b HR2
  go_wp2_with fail
  refine (toFls_any a n c1 f _ (H1.out.below HB3.out) HN.out.1).mono ?_
  rintro e w4 ⟨rfl, hr4, hb4⟩
  have HR4 := Lib.hid hr4
  have HB4 : Hid (Below w.heap.size w w4) := HB3.out.trans (hb4.mono HB3.out.size)
  clear hr4 hb4
  go_wp2_with fail
  refine (toFls_any b m c2 g _ (H2.out.below HB4.out) HN.out.2).mono ?_
  rintro e w5 ⟨rfl, hr5, hb5⟩
  have HR4b := Lib.hid (frow_below HR4.out hb5)
  have HR5 := Lib.hid hr5
  have HB5 : Hid (Below w.heap.size w w5) := HB4.out.trans (hb5.mono HB4.out.size)
  clear hr5 hb5
  go_wp2_with fail
  refine (implCon_all _ _ n m n m f g _ (fun i hi => HR4b.out.cell hi) (fun i hi => HR5.out.cell hi)).mono ?_
  rintro e w6 ⟨rfl, hb6⟩
  have HB6 : Hid (Below w.heap.size w w6) := HB5.out.trans (hb6.mono HB5.out.size)
  have HR46 := Lib.hid (frow_below HR4b.out hb6)
  have HR56 := Lib.hid (frow_below HR5.out hb6)
  clear hb6 HR4 HR4b HR5
  go_wp2_with fail
  refine (csame_any _ _).mono ?_
  rintro e w7 ⟨rfl, rfl⟩
  go_wp2_with fail
  refine (toFls_any a n c1 f _ (H1.out.below HB6.out) HN.out.1).mono ?_
  rintro e w8 ⟨rfl, hr8, hb8⟩
  have HR8 := Lib.hid hr8
  have HB8 : Hid (Below w.heap.size w w8) := HB6.out.trans (hb8.mono HB6.out.size)
  have HR48 := Lib.hid (frow_below HR46.out hb8)
  have HR58 := Lib.hid (frow_below HR56.out hb8)
  clear hr8 hb8
  go_wp2_with fail
  refine (ceqF_any _ _ n n n f _ (fun i hi => HR48.out.cell hi) (fun i hi => HR8.out.cell hi) HN.out.1).mono ?_
  rintro e w9 ⟨rfl, q, hw9⟩
  have hb9 : Below w8.heap.size w8 w9 := by rw [hw9]; exact below_drewN (Below.refl _ _) q
  have HB9 : Hid (Below w.heap.size w w9) := HB8.out.trans (hb9.mono HB8.out.size)
  have HR59 := Lib.hid (frow_below HR58.out hb9)
  clear hb9 hw9
  go_wp2_with fail
  refine (toFls_any b m c2 g _ (H2.out.below HB9.out) HN.out.2).mono ?_
  rintro e w10 ⟨rfl, hr10, hb10⟩
  have HR10 := Lib.hid hr10
  have HB10 : Hid (Below w.heap.size w w10) := HB9.out.trans (hb10.mono HB9.out.size)
  have HR5x := Lib.hid (frow_below HR59.out hb10)
  clear hr10 hb10
  go_wp2_with fail
  refine (ceqF_any _ _ m m m g _ (fun i hi => HR5x.out.cell hi) (fun i hi => HR10.out.cell hi) HN.out.2).mono ?_
  rintro e w11 ⟨rfl, q2, hw11⟩
  have hb11 : Below w10.heap.size w10 w11 := by rw [hw11]; exact below_drewN (Below.refl _ _) q2
  have HB11 : Hid (Below w.heap.size w w11) := HB10.out.trans (hb11.mono HB10.out.size)
  clear hb11 hw11
  go_wp2_with fail
  go_ret
  exact ⟨rfl, HB11.out⟩
section
open Go Go.ChangeShapes Go.WideShapes Go.ChangeAt Go.RowKit Go.Deep
theorem ctrod_float {P : Program} {w : World} {H : Type} {enc : TypeId × Value → H} {base fuel : Nat} {spare : Nat → Bool} {held : Bool} {t : TypeId} {v : Value} {x : DataW H × List MemPlace} (ht : P.underlying t = some (.float .f64)) (h : DataW.trod enc P w base spare held fuel t [v] = some x) : ∃ z, v = .float .f64 z := by
  cases fuel with
  | zero => simp [DataW.trod] at h
  | succ m =>
    cases v with
    | float k z =>
      simp only [DataW.trod, ht] at h
      split at h
      · rename_i hh; exact ⟨z, by rw [hh.1]⟩
      · cases h
    | _ => simp [DataW.trod, ht] at h

theorem cellsF : Try.prog.cellsOf 44 = 1 := by kernel_rfl
theorem floats_in {H : Type} {enc : TypeId × Value → H} {W : World} {base fuel : Nat} {spare : Nat → Bool} {held : Bool} {x : DataW H × List MemPlace} {a : Option Addr} {len cap : Nat}
    (h : DataW.trod enc Try.prog W base spare held fuel 43 [.slice a len cap] = some x) : ∃ zs, FlsIn a len zs W := by
  rcases open_slice1 Try.underlying43 cellsF h with ⟨hcs, _⟩ | ⟨ad, l, c, m, n, V, D, Pl, hcs, _, hl, _, hmm, _, hx⟩
  · simp at hcs
    obtain ⟨rfl, rfl, rfl⟩ := hcs
    exact ⟨[], 0, 0, fun h => by omega, fun i hi => by omega⟩
  · simp at hcs
    obtain ⟨rfl, rfl, rfl⟩ := hcs
    have hlm : len ≤ m := by rw [hmm]; split <;> omega
    by_cases h0 : len = 0
    · exact ⟨[], 0, 0, fun h => by omega, fun i hi => by omega⟩
    obtain ⟨b, off, spot⟩ := ad
    have hsp : spot = none := by
      have := World.cell?_spot (hx 0 (by omega)).1
      simpa [Addr.add] using this
    subst hsp
    have each : ∀ i, ∃ z : Nat, i < len → W.cell? ⟨b, off + i, none⟩ = some (.float .f64 z) := by
      intro i
      by_cases hi : i < len
      · obtain ⟨h1, h2⟩ := hx i (by omega)
        obtain ⟨z, e⟩ := ctrod_float Try.underlying44 h2
        rw [Addr.add_lit, e] at h1
        exact ⟨z, fun _ => h1⟩
      · exact ⟨0, fun h => absurd h hi⟩
    obtain ⟨z, hz⟩ := Classical.axiomOfChoice each
    refine ⟨(List.range len).map z, b, off, fun _ => rfl, fun i hi => ?_⟩
    have h2 : Fl.el ((List.range len).map z) i = z i := by simp [Fl.el, List.getD, hi]
    rw [h2]
    exact hz i hi
end
end Go.Proofs.Ytoeibcmmpbkbpaa
