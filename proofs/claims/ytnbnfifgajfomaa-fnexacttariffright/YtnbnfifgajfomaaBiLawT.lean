/-
  The law FnExactTariffRight.
-/
import Derived.Test.YtnbnfifgajfomaaBiEx
import Derived.Test.YtnbnfifgajfomaaBiT
import Derived.Test.YtnbnfifgajfomaaBiTs
namespace Go.Proofs.Ytnbnfifgajfomaa
open Go.RowKit Go.Deep

/-- What stands in a law over a tariff: its own block, the block of the tariff that was handed to the program, its lists, the old memory, and more. -/
structure TL (w : World) (t : Bi.T) (la : Option Addr) (lk X gl : Nat) (P : World → Prop) (W : World) : Prop where
  ra : W.rowIs w.heap.size 31 4 (rowN (tfL t la lk))
  rx : W.rowIs X 36 4 (rowN (tfL t (some ⟨gl, 0, none⟩) t.bn))
  kx : IsBlk 52 gl (t.bn * 2) t.B W
  old : Below w.heap.size w W
  p : P W
/-- It lasts. -/
def TLasts (P : World → Prop) : Prop := ∀ W W', Below W.heap.size W W' → P W → P W'
theorem TL.below {w : World} {t : Bi.T} {la : Option Addr} {lk X gl : Nat} {P : World → Prop} {W W' : World} (hP : TLasts P) (h : TL w t la lk X gl P W) (hb : Below W.heap.size W W') : TL w t la lk X gl P W' :=
  ⟨nrow_below h.ra hb, nrow_below h.rx hb, h.kx.below hb, h.old.trans (hb.mono h.old.size), hP _ _ hb h.p⟩
theorem tlasts_true : TLasts (fun _ => True) := fun _ _ _ _ => trivial
set_option maxRecDepth 100000 in
set_option maxHeartbeats 4000000 in
theorem tariffRight_law (w : World) (t : Bi.T) (la : Option Addr) (lk : Nat) (h : IsIn la (t.bn * 2) t.B w) (hl : t.bn ≤ 9223372036854775807) :
    Calls Try.prog 4 #[tfV t la lk] w fun e w' => e = .returned (.bool true) ∧ Below w.heap.size w w' := by
  have H := Lib.hid h
  have RW := Lib.hid (rowN_alloc w (tfL t la lk) 31)
  obtain ⟨W, hW⟩ : ∃ W, W = w.alloc (.cells #[.int .i64 t.day, .slice la t.bn lk, .int .i64 t.sew, .int .i64 t.tax] 31) := ⟨_, rfl⟩
  have R0 : Hid (W.rowIs w.heap.size 31 4 (rowN (tfL t la lk))) := by rw [hW]; exact rowN_alloc w _ _
  have B0 : Hid (Below w.heap.size w W) := by rw [hW]; exact nbel_alloc _ _
  have HW := Lib.hid hW
  clear h hW RW
  go_enter Try.func4, Try.ntmps4
  go_wp2_with fail
  rw [← HW.out]
  refine (szTariff_any t la lk 1048576 _ (by omega) hl).mono ?_
  rintro e w1 ⟨hz, hb⟩
  have R1 := Lib.hid (nrow_below R0.out hb)
  have B1 : Hid (Below w.heap.size w w1) := B0.out.trans (hb.mono B0.out.size)
  clear hb R0 B0
  rcases hz with ⟨z, rfl, hz⟩ | ⟨hs, rfl⟩
  · go_wp2_with fail
    go_ret
    exact ⟨rfl, B1.out⟩
  have HS := Lib.hid hs
  have hz0 : ¬ ((1048576 - t.bn : Nat) : Int) < 0 := by omega
  clear hs
  obtain ⟨⟨r0, r1, r2, r3⟩, _⟩ := rowN4 R1.out
  go_wp2_with fail
  refine (toTariff_any t la lk _ (H.out.below B1.out) HS.out).mono ?_
  rintro e w2 ⟨⟨gl, rfl, _, hk⟩, hb⟩
  have R2 := Lib.hid (nrow_below R1.out hb)
  have B2 : Hid (Below w.heap.size w w2) := B1.out.trans (hb.mono B1.out.size)
  have K2 := Lib.hid hk
  clear hb hk R1 B1 r0 r1 r2 r3
  obtain ⟨⟨r0, r1, r2, r3⟩, _⟩ := rowN4 R2.out
  go_wp2_with fail
  refine (specTariff_any t _ _ _ K2.out.at_ hl).mono ?_
  rintro e w3 ⟨rfl, hb⟩
  have R3 := Lib.hid (nrow_below R2.out hb)
  have B3 : Hid (Below w.heap.size w w3) := B2.out.trans (hb.mono B2.out.size)
  obtain ⟨bb, hbe⟩ : ∃ bb, bb = Bi.dB (Bi.Right t) := ⟨_, rfl⟩
  have HBE := Lib.hid hbe
  rw [← hbe]
  clear hbe
  clear hb R2 B2 K2 r0 r1 r2 r3
  obtain ⟨⟨r0, r1, r2, r3⟩, _⟩ := rowN4 R3.out
  go_wp2_with fail
  refine (toTariff_any t la lk _ (H.out.below B3.out) HS.out).mono ?_
  rintro e w4 ⟨⟨gl2, rfl, _, hk⟩, hb⟩
  have R4 := Lib.hid (nrow_below R3.out hb)
  have B4 : Hid (Below w.heap.size w w4) := B3.out.trans (hb.mono B3.out.size)
  have K4 := Lib.hid hk
  clear hb hk R3 B3 r0 r1 r2 r3
  obtain ⟨W4, hW4⟩ : ∃ W4, W4 = w4.alloc (.cells #[.int .i64 t.day, .slice (some ⟨gl2, 0, none⟩) t.bn t.bn, .int .i64 t.sew, .int .i64 t.tax] 36) := ⟨_, rfl⟩
  have Q4 : Hid (W4.rowIs w4.heap.size 36 4 (rowN (tfL t (some ⟨gl2, 0, none⟩) t.bn))) := by rw [hW4]; exact rowN_alloc w4 _ _
  have R5 : Hid (W4.rowIs w.heap.size 31 4 (rowN (tfL t la lk))) := by rw [hW4]; exact nrow_below R4.out (nbel_alloc _ _)
  have B5 : Hid (Below w.heap.size w W4) := by rw [hW4]; exact B4.out.alloc B4.out.size _
  have K5 : Hid (IsBlk 52 gl2 (t.bn * 2) t.B W4) := by rw [hW4]; exact K4.out.below (nbel_alloc _ _)
  have HW4 := Lib.hid hW4
  clear hW4 R4 B4 K4
  go_wp2_with fail
  rw [← HW4.out]
  refine (implTariff_any t _ _ _ K5.out.at_ hl).mono ?_
  rintro e w5 ⟨rfl, hb⟩
  rw [← HBE.out]
  have S := Lib.hid (TL.below tlasts_true (P := fun _ => True) ⟨R5.out, Q4.out, K5.out, B5.out, trivial⟩ hb)
  clear hb R5 B5 K5 Q4
  have hbb : (bb != bb) = false := by simp
  go_wp2_with fail
  refine wp_region_held_drew (S := TL w t la lk w4.heap.size gl2 (fun _ => True)) (by kernel_rfl) (S.out.below tlasts_true (Below.refl _ _).drew) (fun hHeld => ?_)
  clear S
  refine take_do (i := 0) (v := (tfV t (some ⟨gl2, 0, none⟩) t.bn)) rfl (by kernel_rfl) (by kernel_rfl) (by kernel_rfl) (fun _ _ _ h => h) (by rfl) ?_ (by assumption) ?_
  · intro w hSw
    obtain ⟨⟨a0, a1, a2, a3⟩, _⟩ := rowN4 hSw.rx
    go_simp
  simp only [Act.put, List.setIfInBounds_toArray, List.set_cons_zero, List.set_cons_succ]
  refine take_do (i := 1) (v := (tfV t la lk)) rfl (by kernel_rfl) (by kernel_rfl) (by kernel_rfl) (fun _ _ _ h => h) (by rfl) ?_ (by assumption) ?_
  · intro w hSw
    obtain ⟨⟨a0, a1, a2, a3⟩, _⟩ := rowN4 hSw.ra
    go_simp
  simp only [Act.put, List.setIfInBounds_toArray, List.set_cons_zero, List.set_cons_succ]
  refine take_call (i := 2) rfl (by kernel_rfl) (fun K2 hK => ?_)
  go_simp
  refine (toTariff_any t la lk _ (H.out.below hHeld.old) HS.out).mono ?_
  rintro e w6 ⟨⟨gl3, rfl, _, hk6⟩, hb6⟩
  have HK6 := Lib.hid hk6
  go_wp2_with fail
  refine hK.out _ _ (hHeld.below tlasts_true hb6) (fun hHeld2 => ?_)
  clear hK hHeld hb6 hk6
  refine take_call (i := 3) rfl (by kernel_rfl) (fun K2 hK => ?_)
  go_simp
  refine (eqTariff_same t _ _ _ _ _ hHeld2.kx.at_ HK6.out.at_ HS.out).mono ?_
  rintro e w7 ⟨rfl, hb7⟩
  go_wp2_with fail
  refine hK.out _ _ (hHeld2.below tlasts_true hb7) (fun hHeld => ?_)
  clear hK hHeld2 hb7
  refine take_do (i := 4) (v := (.bool false)) rfl (by kernel_rfl) (by kernel_rfl) (by kernel_rfl) (fun _ _ _ h => h) (by rfl) ?_ (by assumption) ?_
  · intro w hSw
    go_simp
  simp only [Act.put, List.setIfInBounds_toArray, List.set_cons_zero, List.set_cons_succ]
  refine wpAnyH_done (by kernel_rfl) ?_ _
  have B8 := Lib.hid hHeld.old
  clear hHeld
  go_wp2_with fail
  go_ret
  exact ⟨rfl, B8.out⟩
end Go.Proofs.Ytnbnfifgajfomaa
