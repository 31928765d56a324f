/-
  Draws of the chapter of loops: a small float, a Cnum, two Cnums.
-/
import Derived.Test.YtplghjghecfeoaaDoorFDraw
import Derived.Test.YtplghjghecfeoaaDoorSource
import Derived.Test.YtplghjghecfeoaaDoorLpMem
namespace Go.Proofs.YtplghjghecfeoaaDoor
open Go.RowKit Go.Deep

attribute [local go_sem] lrun_store_float lrun_store_complex

theorem row_chg {sb g : Nat} {t : TypeId} {m : Nat} {F : Nat → Value} {w w' : World} (h : w.rowIs g t m F) (hc : Chg sb w w') (hne : g ≠ sb) : w'.rowIs g t m F := h.of_block (hc.2.2.2.2 g h.lt hne)
theorem lChg_setNew {sb : Nat} {a b : World} (h : Chg sb a b) {p : Addr} (hp : a.heap.size ≤ p.block) (v : Value) : Chg sb a (b.setCell p v) :=
  ⟨h.1, h.2.1, h.2.2.1, by simpa using h.2.2.2.1, fun k hk hne => (Below.heap_setCell _ _ _ _ (by omega)).trans (h.2.2.2.2 k hk hne)⟩
theorem lset_other {W : World} {F : Nat} (o : Nat) (x : Value) {p : Addr} (hp : p.block ≠ F) : (W.setCell ⟨F, o, none⟩ x).cell? p = W.cell? p := by
  rw [World.cell?_setCell_other _ _ _ _ (fun e => hp (by rw [← e]))]
theorem lSrc_set {sb F : Nat} {W : World} (h1 : Src sb W) (h3 : sb < F) (o : Nat) (x : Value) : Src sb (W.setCell ⟨F, o, none⟩ x) := by
  obtain ⟨p, len, cap, at_, mix, size, ⟨k0, k1, k2, k3, g0, g1, g2, g3⟩, q1, q2, q3, q4, q5, q6⟩ := h1
  have hsF : sb ≠ F := by omega
  refine ⟨p, len, cap, at_, mix, size, ⟨(lset_other _ _ hsF).trans k0, (lset_other _ _ hsF).trans k1, (lset_other _ _ hsF).trans k2, (lset_other _ _ hsF).trans k3, by simpa using g0, by simpa using g1, by simpa using g2, by simpa using g3⟩, q1, q2, q3, q4, q5, fun i hi => ?_⟩
  obtain ⟨cb, co, z, e, hlt, hc, z0, z1⟩ := q6 i hi
  exact ⟨cb, co, z, e, hlt, (lset_other _ _ (by show cb ≠ F; omega)).trans hc, z0, z1⟩

set_option maxRecDepth 100000 in
set_option maxHeartbeats 1000000 in
theorem small_any (sb : Nat) (w : World) (h : Src sb w) :
    Calls Tryd.prog 22 #[.pointer (some ⟨sb, 0, none⟩)] w fun e w' => (∃ x, e = .returned (.float .f64 x)) ∧ Drew sb w w' := by
  have H : Hid (Src sb w) := h
  clear h
  go_enter Tryd.func22, Tryd.ntmps22
  go_wp2_with fail
  refine (one_any sb 12 _ H.out (by omega)).mono ?_
  rintro e w1 ⟨⟨b, rfl⟩, hD⟩
  have HD := Lib.hid hD
  clear hD
  cases b
  · go_wp2_with fail
    refine (n_any sb 4001 _ HD.out.1 (by omega)).mono ?_
    rintro e w2 ⟨⟨u, rfl, u0, u1, _⟩, hD⟩
    have u2 : u < 4001 := u1 (by omega)
    have HD2 : Hid (Drew sb w w2) := ⟨hD.1, HD.out.2.trans hD.2⟩
    clear hD u1 HD
    obtain ⟨g, k, ha⟩ := arith_any .quo (by simp) (floatOfInt .f64 (u - 2000)) 4652007308841189376
    go_wp2_with fail
    go_ret
    exact ⟨⟨_, rfl⟩, HD2.out.drewN _⟩
  · go_wp2_with fail
    refine (float_any sb _ HD.out.1).mono ?_
    rintro e w2 ⟨⟨x, rfl⟩, hD⟩
    have HD2 : Hid (Drew sb w w2) := ⟨hD.1, HD.out.2.trans hD.2⟩
    clear hD HD
    go_wp2_with fail
    go_ret
    exact ⟨⟨_, rfl⟩, HD2.out⟩
end Go.Proofs.YtplghjghecfeoaaDoor
