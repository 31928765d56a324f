/-
  The law FnExactStationSend.
-/
import Derived.Test.YtmphjkpiookioaaDoorLnEx
import Derived.Test.YtmphjkpiookioaaDoorLnSd
namespace Go.Proofs.YtmphjkpiookioaaDoor
open Go.RowKit Go.Deep

/-- What stands in a law over a station: its own block, the block of the station that was handed to the program, its lists, the old memory, and more. -/
structure TL (w : World) (t : Ln.S) (la : Option Addr) (lk X gl : Nat) (P : World → Prop) (W : World) : Prop where
  ra : W.rowIs w.heap.size 24 7 (rowN (stL t la lk))
  rx : W.rowIs X 29 7 (rowN (stL t (some ⟨gl, 0, none⟩) t.wait.length))
  kx : IsBlk 47 gl (t.wait.length * 2) (Ln.fl t.wait) W
  old : Below w.heap.size w W
  p : P W
/-- It lasts. -/
def TLasts (P : World → Prop) : Prop := ∀ W W', Below W.heap.size W W' → P W → P W'
theorem TL.below {w : World} {t : Ln.S} {la : Option Addr} {lk X gl : Nat} {P : World → Prop} {W W' : World} (hP : TLasts P) (h : TL w t la lk X gl P W) (hb : Below W.heap.size W W') : TL w t la lk X gl P W' :=
  ⟨nrow_below h.ra hb, nrow_below h.rx hb, h.kx.below hb, h.old.trans (hb.mono h.old.size), hP _ _ hb h.p⟩
theorem tlasts_true : TLasts (fun _ => True) := fun _ _ _ _ => trivial
set_option maxRecDepth 100000 in
set_option maxHeartbeats 4000000 in
theorem stationSend_law (w : World) (t : Ln.S) (la : Option Addr) (lk : Nat) (h : IsIn la (t.wait.length * 2) (Ln.fl t.wait) w) (hl : t.wait.length ≤ 9223372036854775807) (hg : TabOk w) :
    Calls Tryd.prog 3 #[stV t la lk] w fun e w' => e = .returned (.bool true) ∧ Below w.heap.size w w' := by
  have H := Lib.hid h
  have HG := Lib.hid hg
  have RW := Lib.hid (rowN_alloc w (stL t la lk) 24)
  obtain ⟨W, hW⟩ : ∃ W, W = w.alloc (.cells #[.int .i64 t.unit, .int .i64 t.band, .bool t.seen, .int .i64 t.last, .int .i64 t.next, .slice la t.wait.length lk, .int .i64 t.drops] 24) := ⟨_, rfl⟩
  have R0 : Hid (W.rowIs w.heap.size 24 7 (rowN (stL t la lk))) := by rw [hW]; exact rowN_alloc w (stL t la lk) _
  have B0 : Hid (Below w.heap.size w W) := by rw [hW]; exact nbel_alloc _ _
  have HW := Lib.hid hW
  clear h hg hW RW
  go_enter Tryd.func3, Tryd.ntmps3
  go_wp2_with fail
  rw [← HW.out]
  refine (szStation_any t la lk 1048576 _ (by omega) hl).mono ?_
  rintro e w1 ⟨hz, hb⟩
  have R1 := Lib.hid (nrow_below R0.out hb)
  have B1 : Hid (Below w.heap.size w w1) := B0.out.trans (hb.mono B0.out.size)
  clear hb R0 B0
  rcases hz with ⟨z, rfl, hz⟩ | ⟨hs, rfl⟩
  · go_wp2_with fail
    go_ret
    exact ⟨rfl, B1.out⟩
  have HS := Lib.hid hs
  have hz0 : ¬ ((1048576 - t.wait.length : Nat) : Int) < 0 := by omega
  clear hs
  obtain ⟨⟨r0, r1, r2, r3, r4, r5, r6⟩, _⟩ := rowN7 R1.out
  go_wp2_with fail
  refine (toStation_any t la lk _ (H.out.below B1.out) HS.out).mono ?_
  rintro e w2 ⟨⟨gl, rfl, _, hk⟩, hb⟩
  have R2 := Lib.hid (nrow_below R1.out hb)
  have B2 : Hid (Below w.heap.size w w2) := B1.out.trans (hb.mono B1.out.size)
  have K2 := Lib.hid hk
  clear hb hk R1 B1 r0 r1 r2 r3 r4 r5 r6
  obtain ⟨⟨r0, r1, r2, r3, r4, r5, r6⟩, _⟩ := rowN7 R2.out
  go_wp2_with fail
  refine (specSend_any t _ _ _ K2.out.at_.in_ HS.out).mono ?_
  rintro e w3 ⟨rfl, hb⟩
  have R3 := Lib.hid (nrow_below R2.out hb)
  have B3 : Hid (Below w.heap.size w w3) := B2.out.trans (hb.mono B2.out.size)
  obtain ⟨bb, hbe⟩ : ∃ bb, bb = (⟨t.send.toArray⟩ : ByteArray) := ⟨_, rfl⟩
  have HBE := Lib.hid hbe
  rw [← hbe]
  clear hbe
  clear hb R2 B2 K2 r0 r1 r2 r3 r4 r5 r6
  obtain ⟨⟨r0, r1, r2, r3, r4, r5, r6⟩, _⟩ := rowN7 R3.out
  go_wp2_with fail
  refine (toStation_any t la lk _ (H.out.below B3.out) HS.out).mono ?_
  rintro e w4 ⟨⟨gl2, rfl, _, hk⟩, hb⟩
  have R4 := Lib.hid (nrow_below R3.out hb)
  have B4 : Hid (Below w.heap.size w w4) := B3.out.trans (hb.mono B3.out.size)
  have K4 := Lib.hid hk
  clear hb hk R3 B3 r0 r1 r2 r3 r4 r5 r6
  obtain ⟨W4, hW4⟩ : ∃ W4, W4 = w4.alloc (.cells #[.int .i64 t.unit, .int .i64 t.band, .bool t.seen, .int .i64 t.last, .int .i64 t.next, .slice (some ⟨gl2, 0, none⟩) t.wait.length t.wait.length, .int .i64 t.drops] 29) := ⟨_, rfl⟩
  have Q4 : Hid (W4.rowIs w4.heap.size 29 7 (rowN (stL t (some ⟨gl2, 0, none⟩) t.wait.length))) := by rw [hW4]; exact rowN_alloc w4 (stL t (some ⟨gl2, 0, none⟩) t.wait.length) _
  have R5 : Hid (W4.rowIs w.heap.size 24 7 (rowN (stL t la lk))) := by rw [hW4]; exact nrow_below R4.out (nbel_alloc _ _)
  have B5 : Hid (Below w.heap.size w W4) := by rw [hW4]; exact B4.out.alloc B4.out.size _
  have K5 : Hid (IsBlk 47 gl2 (t.wait.length * 2) (Ln.fl t.wait) W4) := by rw [hW4]; exact K4.out.below (nbel_alloc _ _)
  have HW4 := Lib.hid hW4
  clear hW4 R4 B4 K4
  go_wp2_with fail
  rw [← HW4.out]
  refine (implSend_any t _ _ _ K5.out.at_.in_ HS.out (lntab HG.out B5.out)).mono ?_
  rintro e w5 ⟨rfl, hb⟩
  rw [← HBE.out]
  have S := Lib.hid (TL.below tlasts_true (P := fun _ => True) ⟨R5.out, Q4.out, K5.out, B5.out, trivial⟩ hb)
  clear hb R5 B5 K5 Q4
  go_wp2_with fail
  refine wp_region_held_drew (S := TL w t la lk w4.heap.size gl2 (fun _ => True)) (by kernel_rfl) (S.out.below tlasts_true (Below.refl _ _).drew) (fun hHeld => ?_)
  clear S
  refine take_do (i := 0) (v := (stV t (some ⟨gl2, 0, none⟩) t.wait.length)) rfl (by kernel_rfl) (by kernel_rfl) (by kernel_rfl) (fun _ _ _ h => h) (by rfl) ?_ (by assumption) ?_
  · intro w hSw
    obtain ⟨⟨a0, a1, a2, a3, a4, a5, a6⟩, _⟩ := rowN7 hSw.rx
    go_simp
  simp only [Act.put, List.setIfInBounds_toArray, List.set_cons_zero, List.set_cons_succ]
  refine take_do (i := 1) (v := (stV t la lk)) rfl (by kernel_rfl) (by kernel_rfl) (by kernel_rfl) (fun _ _ _ h => h) (by rfl) ?_ (by assumption) ?_
  · intro w hSw
    obtain ⟨⟨a0, a1, a2, a3, a4, a5, a6⟩, _⟩ := rowN7 hSw.ra
    go_simp
  simp only [Act.put, List.setIfInBounds_toArray, List.set_cons_zero, List.set_cons_succ]
  refine take_call (i := 2) rfl (by kernel_rfl) (fun K2 hK => ?_)
  go_simp
  refine (toStation_any t la lk _ (H.out.below hHeld.old) HS.out).mono ?_
  rintro e w6 ⟨⟨gl3, rfl, _, hk6⟩, hb6⟩
  have HK6 := Lib.hid hk6
  go_wp2_with fail
  refine hK.out _ _ (hHeld.below tlasts_true hb6) (fun hHeld2 => ?_)
  clear hK hHeld hb6 hk6
  refine take_call (i := 3) rfl (by kernel_rfl) (fun K2 hK => ?_)
  go_simp
  refine (eqStation_same t _ _ _ _ _ hHeld2.kx.at_.in_ HK6.out.at_.in_ HS.out).mono ?_
  rintro e w7 ⟨rfl, hb7⟩
  go_wp2_with fail
  refine hK.out _ _ (hHeld2.below tlasts_true hb7) (fun hHeld => ?_)
  clear hK hHeld2 hb7
  refine take_do (i := 4) (v := (.bool false)) rfl (by kernel_rfl) (by kernel_rfl) (by kernel_rfl) (fun _ _ _ h => h) (by rfl) ?_ (by assumption) ?_
  · intro w hSw
    go_simp
  simp only [Act.put, List.setIfInBounds_toArray, List.set_cons_zero, List.set_cons_succ]
  refine wpAnyH_done (by kernel_rfl) ?_ _
  have B8 := Lib.hid hHeld.old
  clear hHeld
  go_wp2_with fail
  go_ret
  exact ⟨rfl, B8.out⟩
end Go.Proofs.YtmphjkpiookioaaDoor
