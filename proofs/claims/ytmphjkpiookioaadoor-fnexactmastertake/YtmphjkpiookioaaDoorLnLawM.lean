/-
  The law FnExactMasterTake.
-/
import Derived.Test.YtmphjkpiookioaaDoorLnMs
import Derived.Test.YtmphjkpiookioaaDoorLnEx
namespace Go.Proofs.YtmphjkpiookioaaDoor
open Go.RowKit Go.Deep

namespace masterTake_lawS
/-- What stands in the law between its calls. -/
structure LsS (s : Ln.M) (la : Option Addr) (lk : Nat) (X : Ln.M) (s8 : Nat) (a5 : Option Addr) (c5 s9 g9 s10 h10 : Nat) (a6 : Option Addr) (c6 : Nat) (V F : Nat → Int) (w W : World) : Prop where
  ra : W.rowIs w.heap.size 34 3 (rowN (maL s la lk))
  r8 : W.rowIs s8 37 3 (rowN (maL X a5 c5))
  t8 : NqOwn 47 w.heap.size X.notes.length a5 (Ln.fl X.notes) W
  r9 : W.rowIs s9 37 3 (rowN (maL s (some ⟨g9, 0, none⟩) s.notes.length))
  k9 : NqOwn 47 g9 s.notes.length (some ⟨g9, 0, none⟩) F W
  r10 : W.rowIs s10 37 3 (rowN (maL X a6 c6))
  t10 : NqOwn 47 h10 X.notes.length a6 V W
  o : g9 < h10 ∧ w.heap.size ≤ g9 ∧ (∀ g o, X.notes.length ≠ 0 → a5 = some ⟨g, o, none⟩ → g < g9) ∧ h10 ≤ W.heap.size
  bel : Below w.heap.size w W
section
variable {s : Ln.M} {la : Option Addr} {lk : Nat} {X : Ln.M} {s8 : Nat} {a5 : Option Addr} {c5 s9 g9 s10 h10 : Nat} {a6 : Option Addr} {c6 : Nat} {V V' F F' : Nat → Int} {w W W' : World}
theorem LsS.below (h : LsS s la lk X s8 a5 c5 s9 g9 s10 h10 a6 c6 V F w W) (hb : Below W.heap.size W W') : LsS s la lk X s8 a5 c5 s9 g9 s10 h10 a6 c6 V F w W' :=
  ⟨nrow_below h.ra hb, nrow_below h.r8 hb, h.t8.below hb, nrow_below h.r9 hb, h.k9.below hb, nrow_below h.r10 hb, h.t10.below hb, ⟨h.o.1, h.o.2.1, h.o.2.2.1, Nat.le_trans h.o.2.2.2 hb.size⟩, h.bel.trans (hb.mono h.bel.size)⟩
theorem LsS.markB (h : LsS s la lk X s8 a5 c5 s9 g9 s10 h10 a6 c6 V F w W) (ht : NqOwn 47 h10 X.notes.length a6 V' W') (hb : Below h10 W W') (hr : ∀ j T n F, W.rowIs j T n F → 47 ≠ T → W'.rowIs j T n F) : LsS s la lk X s8 a5 c5 s9 g9 s10 h10 a6 c6 V' F w W' := by
  obtain ⟨o1, o2, o3, o4⟩ := h.o
  exact ⟨hr _ _ _ _ h.ra (by decide), hr _ _ _ _ h.r8 (by decide), h.t8.off (C := h10) (fun g o h0 e => by have := o3 g o h0 e; omega) (fun k hk _ => hb.block k hk), hr _ _ _ _ h.r9 (by decide), h.k9.off (C := h10) (fun g o _ e => by cases e; exact o1) (fun k hk _ => hb.block k hk), hr _ _ _ _ h.r10 (by decide), ht, ⟨o1, o2, o3, Nat.le_trans o4 hb.size⟩, h.bel.trans (hb.mono (by omega))⟩
theorem LsS.markT (h : LsS s la lk X s8 a5 c5 s9 g9 s10 h10 a6 c6 V F w W) (ht : NqOwn 47 g9 s.notes.length (some ⟨g9, 0, none⟩) F' W') (hb : Below g9 W W') (hr : ∀ j T n F, W.rowIs j T n F → 47 ≠ T → W'.rowIs j T n F) (hj : ∀ j, j < W.heap.size → (s.notes.length ≠ 0 → ∀ o, some (⟨g9, 0, none⟩ : Addr) ≠ some ⟨j, o, none⟩) → W'.heap[j]? = W.heap[j]?) : LsS s la lk X s8 a5 c5 s9 g9 s10 h10 a6 c6 V F' w W' := by
  obtain ⟨o1, o2, o3, o4⟩ := h.o
  exact ⟨hr _ _ _ _ h.ra (by decide), hr _ _ _ _ h.r8 (by decide), h.t8.off (C := g9) o3 (fun k hk _ => hb.block k hk), hr _ _ _ _ h.r9 (by decide), ht, hr _ _ _ _ h.r10 (by decide), h.t10.same (fun k hk hl => hj k hl (fun _ o e => by cases e; omega)), ⟨o1, o2, o3, Nat.le_trans o4 hb.size⟩, h.bel.trans (hb.mono o2)⟩
end
end masterTake_lawS
open masterTake_lawS in
set_option maxRecDepth 100000 in
set_option maxHeartbeats 16000000 in
theorem masterTake_law (w : World) (s : Ln.M) (la : Option Addr) (lk : Nat) (h : IsIn la (s.notes.length * 2) (Ln.fl s.notes) w) (hl : s.notes.length ≤ 9223372036854775807) (u : Int) (t : ByteArray) (htz : t.size ≤ 9223372036854775807) (hg : LnG w) :
    Calls Tryd.prog 4 #[maV s la lk, .int .i64 u, .string t] w fun e w' => e = .returned (.bool true) ∧ Below w.heap.size w w' := by
  have H := Lib.hid h
  have HG := Lib.hid hg
  obtain ⟨W, hW⟩ : ∃ W, W = w.alloc (.cells #[.int .i64 s.seq, .slice la s.notes.length lk, .int .i64 s.gaps] 34) := ⟨_, rfl⟩
  have R0 : Hid (W.rowIs w.heap.size 34 3 (rowN (maL s la lk))) := by show W.rowIs _ _ _ _; rw [hW]; exact rowN_alloc w (maL s la lk) _
  have B0 : Hid (Below w.heap.size w W) := by show Below _ _ _; rw [hW]; exact nbel_alloc _ _
  have HW := Lib.hid hW
  clear h hg hW
  obtain ⟨X, hX⟩ : ∃ X, X = s.take u t.data.toList := ⟨_, rfl⟩
  have HX := Lib.hid hX
  clear hX
  go_enter Tryd.func4, Tryd.ntmps4
  by_cases kt : (1048576 : Int) < (t.size : Int)
  · go_wp2_with fail
    rw [← HW.out]
    go_ret
    exact ⟨rfl, B0.out⟩
  go_wp2_with fail
  rw [← HW.out]
  clear HW
  refine (szMaster_any s la lk 1048576 _ (by omega) hl).mono ?_
  rintro e w1 ⟨hz, hb⟩
  have R1 := Lib.hid (nrow_below R0.out hb)
  have B1 : Hid (Below w.heap.size w w1) := B0.out.trans (hb.mono B0.out.size)
  clear hb R0 B0
  rcases hz with ⟨z, rfl, hz⟩ | ⟨hs, rfl⟩
  · go_wp2_with fail
    go_ret
    exact ⟨rfl, B1.out⟩
  have HS := Lib.hid hs
  have hz0 : ¬ ((1048576 - s.notes.length : Nat) : Int) < 0 := by omega
  have HN1 : Hid (X.notes.length ≤ 1048576) := by show _ ≤ _; rw [HX.out]; exact Ln.take_len s u t.data.toList hs
  clear hs
  obtain ⟨⟨r0, r1, r2⟩, _⟩ := rowN3 R1.out
  go_wp2_with fail
  refine (toMaster_any s la lk _ (H.out.below B1.out) HS.out).mono ?_
  rintro e w2 ⟨⟨g2, rfl, _, hk⟩, hb⟩
  have R2 := Lib.hid (nrow_below R1.out hb)
  have B2 : Hid (Below w.heap.size w w2) := B1.out.trans (hb.mono B1.out.size)
  have K2 := Lib.hid hk
  clear hb hk R1 B1 r0 r1 r2 hz0
  go_wp2_with fail
  refine (specTake_any s _ _ u t _ K2.out.at_.in_ HS.out htz).mono ?_
  rintro e w3 ⟨hE, hb⟩
  rw [← HX.out] at hE
  obtain ⟨a5, c5, rfl, hown⟩ := hE
  obtain ⟨W3, hW3⟩ : ∃ W3, W3 = w3.alloc (.cells #[.int .i64 X.seq, .slice a5 X.notes.length c5, .int .i64 X.gaps] 37) := ⟨_, rfl⟩
  obtain ⟨s8, hs8⟩ : ∃ s, s = w3.heap.size := ⟨_, rfl⟩
  have hb3 : Below w2.heap.size w2 W3 := hb.trans (by rw [hW3]; exact (nbel_alloc _ _).mono hb.size)
  have R3 := Lib.hid (nrow_below R2.out hb3)
  have B3 : Hid (Below w.heap.size w W3) := B2.out.trans (hb3.mono B2.out.size)
  have R83 : Hid (W3.rowIs s8 37 3 (rowN (maL X a5 c5))) := by show World.rowIs _ _ _ _ _; rw [hW3, hs8]; exact rowN_alloc w3 (maL X a5 c5) _
  have T83 : Hid (NqOwn 47 w.heap.size X.notes.length a5 (Ln.fl X.notes) W3) := by show NqOwn _ _ _ _ _ _; rw [hW3]; exact (hown.low B2.out.size).below (nbel_alloc _ _)
  have HW3 := Lib.hid hW3
  have HS8 := Lib.hid hs8
  clear hb hb3 hown hW3 hs8 R2 B2 K2
  obtain ⟨⟨r0, r1, r2⟩, _⟩ := rowN3 R3.out
  rw [HW3.out] at r0 r1 r2
  go_wp2_with fail
  rw [← HW3.out, ← HS8.out]
  clear HW3 HS8 r0 r1 r2
  refine (toMaster_any s la lk _ (H.out.below B3.out) HS.out).mono ?_
  rintro e w4 ⟨⟨g9, rfl, hg9, hk⟩, hb⟩
  obtain ⟨W4, hW4⟩ : ∃ W4, W4 = w4.alloc (.cells #[.int .i64 s.seq, .slice (some ⟨g9, 0, none⟩) s.notes.length s.notes.length, .int .i64 s.gaps] 37) := ⟨_, rfl⟩
  obtain ⟨s9, hs9⟩ : ∃ s, s = w4.heap.size := ⟨_, rfl⟩
  have hb4 : Below W3.heap.size W3 W4 := hb.trans (by rw [hW4]; exact (nbel_alloc _ _).mono hb.size)
  have R4 := Lib.hid (nrow_below R3.out hb4)
  have B4 : Hid (Below w.heap.size w W4) := B3.out.trans (hb4.mono B3.out.size)
  have R84 := Lib.hid (nrow_below R83.out hb4)
  have T84 := Lib.hid (T83.out.below hb4)
  have R94 : Hid (W4.rowIs s9 37 3 (rowN (maL s (some ⟨g9, 0, none⟩) s.notes.length))) := by show World.rowIs _ _ _ _ _; rw [hW4, hs9]; exact rowN_alloc w4 (maL s (some ⟨g9, 0, none⟩) s.notes.length) _
  have K94 : Hid (NqOwn 47 g9 s.notes.length (some ⟨g9, 0, none⟩) (Ln.fl s.notes) W4) := by show NqOwn _ _ _ _ _ _; rw [hW4]; exact Or.inr ⟨g9, 0, rfl, Nat.le_refl _, (hk.below (nbel_alloc _ _)).ns⟩
  have KLT : Hid (g9 < W4.heap.size) := by show _ < _; rw [hW4]; exact (hk.below (nbel_alloc _ _)).lt
  have O9 : Hid (w.heap.size ≤ g9) := Nat.le_trans B3.out.size hg9
  have O5 : Hid (∀ g o, X.notes.length ≠ 0 → a5 = some ⟨g, o, none⟩ → g < g9) := fun g o h0 e => Nat.lt_of_lt_of_le (T83.out.lt g o h0 e) hg9
  have HW4 := Lib.hid hW4
  have HS9 := Lib.hid hs9
  clear hb hb4 hk hW4 hs9 hg9 R3 B3 R83 T83
  obtain ⟨⟨r0, r1, r2⟩, _⟩ := rowN3 R94.out
  rw [HW4.out, HS9.out] at r0 r1 r2
  go_wp2_with fail
  rw [← HW4.out, ← HS9.out]
  clear HW4 HS9 r0 r1 r2
  refine (implTake_any s _ _ u t _ K94.out.in_ HS.out (HG.out.below (B4.out))).mono ?_
  rintro e w5 ⟨hE, hb⟩
  rw [← HX.out] at hE
  obtain ⟨a6, c6, rfl, hown⟩ := hE
  obtain ⟨h10, hh10⟩ : ∃ h, h = W4.heap.size := ⟨_, rfl⟩
  rw [← hh10] at hown
  obtain ⟨W5, hW5⟩ : ∃ W5, W5 = w5.alloc (.cells #[.int .i64 X.seq, .slice a6 X.notes.length c6, .int .i64 X.gaps] 37) := ⟨_, rfl⟩
  obtain ⟨s10, hs10⟩ : ∃ s, s = w5.heap.size := ⟨_, rfl⟩
  have hb5 : Below W4.heap.size W4 W5 := hb.trans (by rw [hW5]; exact (nbel_alloc _ _).mono hb.size)
  have LS0 : Hid (LsS s la lk X s8 a5 c5 s9 g9 s10 h10 a6 c6 (Ln.fl X.notes) (Ln.fl s.notes) w W5) := by
    refine ⟨nrow_below R4.out hb5, nrow_below R84.out hb5, T84.out.below hb5, nrow_below R94.out hb5, K94.out.below hb5, by rw [hW5, hs10]; exact rowN_alloc w5 (maL X a6 c6) _, by rw [hW5]; exact hown.below (nbel_alloc _ _), ⟨by rw [hh10]; exact KLT.out, O9.out, O5.out, by rw [hh10]; exact hb5.size⟩, B4.out.trans (hb5.mono B4.out.size)⟩
  have HW5 := Lib.hid hW5
  have HS10 := Lib.hid hs10
  clear hb hb5 hown hW5 hs10 hh10 R4 B4 R84 T84 R94 K94 KLT O9 O5
  obtain ⟨⟨y0, y1, y2⟩, _⟩ := rowN3 LS0.out.r10
  obtain ⟨⟨u0, u1, u2⟩, _⟩ := rowN3 LS0.out.r8
  rw [HW5.out, HS10.out] at y0 y1 y2
  rw [HW5.out] at u0 u1 u2
  go_wp2_with fail
  rw [← HW5.out, ← HS10.out]
  clear y0 y1 y2 u0 u1 u2
  clear HW5 HS10
  refine (eqMaster_same X a6 a5 c6 c5 _ LS0.out.t10.in_ LS0.out.t8.in_ HN1.out).mono ?_
  rintro e w6 ⟨rfl, hb⟩
  have LS1 : Hid (LsS s la lk X s8 a5 c5 s9 g9 s10 h10 a6 c6 (Ln.fl X.notes) (Ln.fl s.notes) w w6) := LS0.out.below hb
  clear hb LS0
  go_wp2_with fail
  refine wp_region_held_drew (S := LsS s la lk X s8 a5 c5 s9 g9 s10 h10 a6 c6 (Ln.fl X.notes) (Ln.fl s.notes) w) (by kernel_rfl) (LS1.out.below (Below.refl _ _).drew) (fun hHeld => ?_)
  clear LS1
  refine take_do (i := 0) (v := (maV s (some ⟨g9, 0, none⟩) s.notes.length)) rfl (by kernel_rfl) (by kernel_rfl) (by kernel_rfl) (fun _ _ _ h => h) (by rfl) ?_ (by assumption) ?_
  · intro w hSw
    obtain ⟨⟨a0, a1, a2⟩, _⟩ := rowN3 hSw.r9
    go_simp
  simp only [Act.put, List.setIfInBounds_toArray, List.set_cons_zero, List.set_cons_succ]
  refine take_do (i := 1) (v := (maV s la lk)) rfl (by kernel_rfl) (by kernel_rfl) (by kernel_rfl) (fun _ _ _ h => h) (by rfl) ?_ (by assumption) ?_
  · intro w hSw
    obtain ⟨⟨a0, a1, a2⟩, _⟩ := rowN3 hSw.ra
    go_simp
  simp only [Act.put, List.setIfInBounds_toArray, List.set_cons_zero, List.set_cons_succ]
  refine take_call (i := 2) rfl (by kernel_rfl) (fun K2 hK => ?_)
  go_simp
  refine (toMaster_any s la lk _ (H.out.below hHeld.bel) HS.out).mono ?_
  rintro e w7 ⟨⟨gl3, rfl, _, hk6⟩, hb6⟩
  have HK6 := Lib.hid hk6
  go_wp2_with fail
  refine hK.out _ _ (hHeld.below hb6) (fun hHeld2 => ?_)
  clear hK hHeld hb6 hk6
  refine take_call (i := 3) rfl (by kernel_rfl) (fun K2 hK => ?_)
  go_simp
  refine (eqMaster_same s _ _ _ _ _ hHeld2.k9.in_ HK6.out.at_.in_ HS.out).mono ?_
  rintro e w8 ⟨rfl, hb7⟩
  go_wp2_with fail
  refine hK.out _ _ (hHeld2.below hb7) (fun hHeld => ?_)
  clear hK hHeld2 hb7
  refine take_do (i := 4) (v := (.bool false)) rfl (by kernel_rfl) (by kernel_rfl) (by kernel_rfl) (fun _ _ _ h => h) (by rfl) ?_ (by assumption) ?_
  · intro w hSw
    go_simp
  simp only [Act.put, List.setIfInBounds_toArray, List.set_cons_zero, List.set_cons_succ]
  refine wpAnyH_done (by kernel_rfl) ?_ _
  have LS2 := Lib.hid hHeld
  clear hHeld HK6
  obtain ⟨⟨r0, r1, r2⟩, _⟩ := rowN3 LS2.out.r9
  go_wp2_with fail
  clear r0 r1 r2
  refine (markMaster_any s 1 _ LS2.out.k9 HS.out (by omega) (Nat.le_of_lt (Nat.lt_of_lt_of_le LS2.out.o.1 LS2.out.o.2.2.2))).mono ?_
  rintro e w9 ⟨rfl, hm, hb, hr, hj⟩
  have LS3 : Hid (LsS s la lk X s8 a5 c5 s9 g9 s10 h10 a6 c6 (Ln.fl X.notes) (mk1 1) w w9) := LS2.out.markT hm hb hr hj
  clear hm hb hr hj LS2
  obtain ⟨K, hK⟩ : ∃ K : Nat, K = 1 + s.notes.length * 2 := ⟨_, rfl⟩
  rw [← hK]
  have hK0 : ¬ (K : Int) < 0 := by omega
  clear hK
  obtain ⟨⟨y0, y1, y2⟩, _⟩ := rowN3 LS3.out.r10
  obtain ⟨⟨u0, u1, u2⟩, _⟩ := rowN3 LS3.out.r8
  go_wp2_with fail
  clear y0 y1 y2 u0 u1 u2
  refine (eqMaster_same X a6 a5 c6 c5 _ LS3.out.t10.in_ LS3.out.t8.in_ HN1.out).mono ?_
  rintro e w10 ⟨rfl, hb⟩
  have LS4 : Hid (LsS s la lk X s8 a5 c5 s9 g9 s10 h10 a6 c6 (Ln.fl X.notes) (mk1 1) w w10) := LS3.out.below hb
  clear hb LS3
  obtain ⟨⟨y0, y1, y2⟩, _⟩ := rowN3 LS4.out.r10
  go_wp2_with fail
  clear y0 y1 y2
  refine (markMaster_any X 1 _ LS4.out.t10 HN1.out (by omega) LS4.out.o.2.2.2).mono ?_
  rintro e w11 ⟨rfl, hm, hb, hr, _⟩
  have LS5 : Hid (LsS s la lk X s8 a5 c5 s9 g9 s10 h10 a6 c6 (mk1 1) (mk1 1) w w11) := LS4.out.markB hm hb hr
  clear hm hb hr LS4
  obtain ⟨Q, hQ⟩ : ∃ Q : Nat, Q = 1 + X.notes.length * 2 := ⟨_, rfl⟩
  have HQ : Hid (1 + X.notes.length * 2 = Q) := hQ.symm
  rw [← hQ]
  have hQ0 : ¬ (Q : Int) < 0 := by omega
  have hQQ : ((Q : Int) != (Q : Int)) = false := by simp
  clear hQ
  obtain ⟨⟨y0, y1, y2⟩, _⟩ := rowN3 LS5.out.r10
  go_wp2_with fail
  clear y0 y1 y2
  refine (heldMaster_any X 1 _ LS5.out.t10 HN1.out (by omega)).mono ?_
  rintro e w12 ⟨rfl, hb⟩
  rw [HQ.out]
  have LS6 : Hid (LsS s la lk X s8 a5 c5 s9 g9 s10 h10 a6 c6 (mk1 1) (mk1 1) w w12) := LS5.out.below hb
  clear hb LS5
  obtain ⟨⟨r0, r1, r2⟩, _⟩ := rowN3 LS6.out.ra
  go_wp2_with fail
  clear r0 r1 r2
  refine (toMaster_any s la lk _ (H.out.below LS6.out.bel) HS.out).mono ?_
  rintro e w13 ⟨⟨g13, rfl, _, hk⟩, hb⟩
  have LS7 : Hid (LsS s la lk X s8 a5 c5 s9 g9 s10 h10 a6 c6 (mk1 1) (mk1 1) w w13) := LS6.out.below hb
  have K13 := Lib.hid hk
  clear hb hk LS6
  go_wp2_with fail
  refine (implTake_any s _ _ u t _ K13.out.at_.in_ HS.out (HG.out.below (LS7.out.bel))).mono ?_
  rintro e w14 ⟨hE, hb⟩
  rw [← HX.out] at hE
  obtain ⟨a9, c9, rfl, hown⟩ := hE
  obtain ⟨W14, hW14⟩ : ∃ W, W = w14.alloc (.cells #[.int .i64 X.seq, .slice a9 X.notes.length c9, .int .i64 X.gaps] 37) := ⟨_, rfl⟩
  have hb14 : Below w13.heap.size w13 W14 := hb.trans (by rw [hW14]; exact (nbel_alloc _ _).mono hb.size)
  have LS8 : Hid (LsS s la lk X s8 a5 c5 s9 g9 s10 h10 a6 c6 (mk1 1) (mk1 1) w W14) := LS7.out.below hb14
  have O14 : Hid (NqOwn 47 w13.heap.size X.notes.length a9 (Ln.fl X.notes) W14) := by show NqOwn _ _ _ _ _ _; rw [hW14]; exact hown.below (nbel_alloc _ _)
  have R14 : Hid (W14.rowIs w14.heap.size 37 3 (rowN (maL X a9 c9))) := by show World.rowIs _ _ _ _ _; rw [hW14]; exact rowN_alloc w14 (maL X a9 c9) _
  have HW14 := Lib.hid hW14
  clear hb hb14 hown hW14 LS7 K13
  obtain ⟨⟨y0, y1, y2⟩, _⟩ := rowN3 R14.out
  obtain ⟨⟨u0, u1, u2⟩, _⟩ := rowN3 LS8.out.r8
  rw [HW14.out] at y0 y1 y2 u0 u1 u2
  go_wp2_with fail
  rw [← HW14.out]
  clear y0 y1 y2 u0 u1 u2
  clear HW14
  refine (eqMaster_same X a9 a5 c9 c5 _ O14.out.in_ LS8.out.t8.in_ HN1.out).mono ?_
  rintro e w15 ⟨rfl, hb⟩
  have LS9 : Hid (LsS s la lk X s8 a5 c5 s9 g9 s10 h10 a6 c6 (mk1 1) (mk1 1) w w15) := LS8.out.below hb
  clear hb LS8 O14 R14
  obtain ⟨⟨y0, y1, y2⟩, _⟩ := rowN3 LS9.out.r10
  go_wp2_with fail
  clear y0 y1 y2
  refine (heldMaster_any X 1 _ LS9.out.t10 HN1.out (by omega)).mono ?_
  rintro e w16 ⟨rfl, hb⟩
  rw [HQ.out]
  have LS10 : Hid (LsS s la lk X s8 a5 c5 s9 g9 s10 h10 a6 c6 (mk1 1) (mk1 1) w w16) := LS9.out.below hb
  clear hb LS9
  go_wp2_with fail
  go_ret
  exact ⟨rfl, LS10.out.bel⟩
end Go.Proofs.YtmphjkpiookioaaDoor
