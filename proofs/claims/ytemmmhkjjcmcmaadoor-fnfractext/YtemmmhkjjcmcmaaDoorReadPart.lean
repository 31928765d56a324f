/-
  The contract of the program's readers of a number and of two parts.
-/
import Derived.Test.YtemmmhkjjcmcmaaDoorReadMath
import Derived.Test.YtemmmhkjjcmcmaaDoorShelfB
import Derived.Test.YtemmmhkjjcmcmaaDoorTextB
import Derived.Test.YtemmmhkjjcmcmaaDoorOf
namespace Go.Proofs.YtemmmhkjjcmcmaaDoor
open Go.RowKit

/-- What a reader asks of the library's variables. -/
structure Rd1 (w : World) : Prop where
  len : ∃ m : Int, w.cell? ⟨2, 0, none⟩ = some (.int .i64 m)
  syn : ∃ te pe, w.cell? ⟨5, 0, none⟩ = some (.iface te pe)
  rng : ∃ te pe, w.cell? ⟨6, 0, none⟩ = some (.iface te pe)
  tab : TabOk w
  typ : w.cell? ⟨0, 0, none⟩ = some (.iface 107 (.agg #[.pointer (some ⟨7, 42, none⟩)]))

theorem Rd1.later {w w' : World} (h : Rd1 w) (hb : Below w.heap.size w w') : Rd1 w' where
  len := h.len.imp fun _ k => (hb.cell (Lib.lt_of_cell k)).trans k
  syn := h.syn.imp fun _ k => k.imp fun _ k => (hb.cell (Lib.lt_of_cell k)).trans k
  rng := h.rng.imp fun _ k => k.imp fun _ k => (hb.cell (Lib.lt_of_cell k)).trans k
  tab := Lib.tabBelow_of_tabIs h.tab w' hb
  typ := (hb.cell (Lib.lt_of_cell h.typ)).trans h.typ

theorem readPart_any (s : ByteArray) (hs : s.size ≤ 20000) (w : World) (h : Rd1 w) :
    Calls Tryd.prog 54 #[.string s] w fun e w' => ((∃ v, -9223372036854775808 ≤ v ∧ v ≤ 9223372036854775807 ∧ Lib.parseIntB 64 s.data.toList = .ok v ∧ e = .returned (.tuple #[.int .i64 v, .nilIface])) ∨ ((∀ v, Lib.parseIntB 64 s.data.toList ≠ .ok v) ∧ e = .returned (.tuple #[.int .i64 0, .iface 61 (.agg #[.int .i64 3])]))) ∧ Below w.heap.size w w' := by
  obtain ⟨te, pe, hsy⟩ := h.syn
  obtain ⟨te', pe', hrg⟩ := h.rng
  have h1 : s.size ≤ 9223372036854775806 := by omega
  have h2 : s.size ≤ 281474976710656 := by omega
  cases hp : Lib.parseIntB 64 s.data.toList with
  | ok v =>
    have hv := Lib.parseIntB_bounds hp
    have HC := fun wx => Tryd.strconv_ParseInt_10_at64_ok s h1 v hp wx
    clear hsy hrg h hs h1 h2
    have Hp := Lib.hid hp
    clear hp
    go_enter Tryd.func54, Tryd.ntmps54
    go_wp2_with fail
    refine (HC _).mono ?_
    rintro e w1 ⟨rfl, hw⟩
    have HB : Hid (Below w.heap.size w w1) := by
      rcases hw with rfl | ⟨t, rfl⟩
      · exact Below.refl _ _
      · exact Lib.bytesWorld_below _ _ _
    clear hw HC
    go_wp2_with fail
    go_ret2
    exact ⟨Or.inl ⟨v, by have := hv; simp at this; omega, by have := hv; simp at this; omega, by rfl, rfl⟩, HB.out⟩
  | «syntax» =>
    have HC := Tryd.strconv_ParseInt_10_at64_syntax s h2 hp _ w hsy (Or.inr ⟨_, _, rfl⟩)
    clear hsy hrg h hs h1 h2 hp
    go_enter Tryd.func54, Tryd.ntmps54
    go_wp2_with fail
    refine HC.mono ?_
    rintro e w1 ⟨N, rfl, _, _, hb⟩
    have HB : Hid (Below w.heap.size w w1) := hb
    clear hb HC
    go_wp2_with fail
    go_ret2
    exact ⟨Or.inr ⟨fun v k => (by cases k), rfl⟩, HB.out⟩
  | range =>
    have HC := Tryd.strconv_ParseInt_10_at64_range s h2 hp _ w hrg (Or.inr ⟨_, _, rfl⟩)
    clear hsy hrg h hs h1 h2 hp
    generalize Lib.intSat 64 s.data.toList = sat at *
    go_enter Tryd.func54, Tryd.ntmps54
    go_wp2_with fail
    refine HC.mono ?_
    rintro e w1 ⟨N, rfl, _, _, hb⟩
    have HB : Hid (Below w.heap.size w w1) := hb
    clear hb HC
    go_wp2_with fail
    go_ret2
    exact ⟨Or.inr ⟨fun v k => (by cases k), rfl⟩, HB.out⟩
end Go.Proofs.YtemmmhkjjcmcmaaDoor
