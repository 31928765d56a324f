/-
  Spans, the room of a loop: the program's walk.
-/
import Derived.Test.YtfgmalnkpgloiaaGreatDoorMnP4
namespace Go.Proofs.YtfgmalnkpgloiaaGreatDoor
open Go.RowKit Go.Deep
namespace Mn
def roomTo (m : Mains) (f L : Nat → Int) : Nat → Int × Int
  | 0 => (-200000, 200000)
  | k + 1 => (max (roomTo m f L k).1 (loK m f (L k)), min (roomTo m f L k).2 (hiK m f (L k)))
theorem room_in {m : Mains} (hr : Right m) {f L : Nat → Int} (ho : AllOk m f) : ∀ n, (∀ k, k < n → NumOk m (L k)) → (-200000 ≤ (roomTo m f L n).1 ∧ (roomTo m f L n).1 ≤ 0) ∧ (0 ≤ (roomTo m f L n).2 ∧ (roomTo m f L n).2 ≤ 200000)
  | 0, _ => by simp [roomTo]
  | n + 1, h => by
    have ih := room_in hr ho n (fun k hk => h k (by omega))
    have hb := k_bd hr ho (h n (by omega))
    simp only [roomTo]
    omega
/-- To clamp one after the other is to clamp to the common span, since nought is in each. -/
theorem ch_room {m : Mains} (hr : Right m) {f L : Nat → Int} (ho : AllOk m f) (c : Int) : ∀ n, (∀ k, k < n + 1 → NumOk m (L k)) → chTo m f L c (n + 1) = min (max c (roomTo m f L (n + 1)).1) (roomTo m f L (n + 1)).2
  | 0, h => by
    have hb := k_bd hr ho (h 0 (by omega))
    simp only [chTo, roomTo, clampI]
    omega
  | n + 1, h => by
    have ih := ch_room hr ho c n (fun k hk => h k (by omega))
    have hi := room_in hr ho (n + 1) (fun k hk => h k (by omega))
    have hb := k_bd hr ho (h (n + 1) (by omega))
    show clampI (chTo m f L c (n + 1)) _ _ = min (max c (max (roomTo m f L (n + 1)).1 _)) (min (roomTo m f L (n + 1)).2 _)
    rw [ih]
    unfold clampI
    omega
end Mn
theorem seen_any (a b wy sA sB : Int) (h : (wy = -1 ∧ sA = -b ∧ sB = -a ∧ -1000000 ≤ a ∧ a ≤ 1000000 ∧ -1000000 ≤ b ∧ b ≤ 1000000) ∨ (wy = 1 ∧ sA = a ∧ sB = b)) (w : World) : Calls Tryz.prog 112 #[spanV a b, .int .i64 wy] w fun e w' => e = .returned (spanV sA sB) ∧ Below w.heap.size w w' := by
  have HB := Lib.hid (mbel2 w)
  rcases h with ⟨rfl, rfl, rfl, h1, h2, h3, h4⟩ | ⟨rfl, rfl, rfl⟩
  · go_enter Tryz.func112, Tryz.ntmps112
    go_wp2_with fail
    exact bodyPost_ret (v := spanV (-b) (-a)) (by simp [results, Tryz.results112, go_sem]) rfl ⟨rfl, HB.out _ _⟩
  · go_enter Tryz.func112, Tryz.ntmps112
    go_wp2_with fail
    exact bodyPost_ret (v := spanV sA sB) (by simp [results, Tryz.results112, go_sem]) rfl ⟨rfl, HB.out _ _⟩
theorem lower_any (a b g : Int) (w : World) (h1 : -1000000 ≤ a - g ∧ a - g ≤ 1000000) (h2 : -1000000 ≤ b - g ∧ b - g ≤ 1000000) : Calls Tryz.prog 113 #[spanV a b, .int .i64 g] w fun e w' => e = .returned (spanV (a - g) (b - g)) ∧ Below w.heap.size w w' := by
  have HB := Lib.hid (mbel2 w)
  obtain ⟨h3, h4⟩ := h1
  obtain ⟨h5, h6⟩ := h2
  go_enter Tryz.func113, Tryz.ntmps113
  go_wp2_with fail
  exact bodyPost_ret (v := spanV (a - g) (b - g)) (by simp [results, Tryz.results113, go_sem]) rfl ⟨rfl, HB.out _ _⟩
theorem mbel3 (w : World) (o1 o2 o3 : Obj) : Below w.heap.size w (((w.alloc o1).alloc o2).alloc o3) := (mbel2 w o1 o2).alloc (by simp; omega) _
theorem common_any (a b c d : Int) (w : World) : Calls Tryz.prog 111 #[spanV a b, spanV c d] w fun e w' => e = .returned (spanV (max a c) (min b d)) ∧ Below w.heap.size w w' := by
  have HB := Lib.hid (mbel3 w)
  by_cases h1 : a < c
  · by_cases h2 : d < b
    · have e1 : Hid (max a c = c) := by show _ = _; omega
      have e2 : Hid (min b d = d) := by show _ = _; omega
      go_enter Tryz.func111, Tryz.ntmps111
      go_wp2_with fail
      exact bodyPost_ret (v := spanV c d) (by simp [results, Tryz.results111, go_sem]) rfl ⟨by rw [e1.out, e2.out], HB.out _ _ _⟩
    · have e1 : Hid (max a c = c) := by show _ = _; omega
      have e2 : Hid (min b d = b) := by show _ = _; omega
      go_enter Tryz.func111, Tryz.ntmps111
      go_wp2_with fail
      exact bodyPost_ret (v := spanV c b) (by simp [results, Tryz.results111, go_sem]) rfl ⟨by rw [e1.out, e2.out], HB.out _ _ _⟩
  · by_cases h2 : d < b
    · have e1 : Hid (max a c = a) := by show _ = _; omega
      have e2 : Hid (min b d = d) := by show _ = _; omega
      go_enter Tryz.func111, Tryz.ntmps111
      go_wp2_with fail
      exact bodyPost_ret (v := spanV a d) (by simp [results, Tryz.results111, go_sem]) rfl ⟨by rw [e1.out, e2.out], HB.out _ _ _⟩
    · have e1 : Hid (max a c = a) := by show _ = _; omega
      have e2 : Hid (min b d = b) := by show _ = _; omega
      go_enter Tryz.func111, Tryz.ntmps111
      go_wp2_with fail
      exact bodyPost_ret (v := spanV a b) (by simp [results, Tryz.results111, go_sem]) rfl ⟨by rw [e1.out, e2.out], HB.out _ _ _⟩
theorem nearest_any (a b x : Int) (w : World) : Calls Tryz.prog 103 #[spanV a b, .int .i64 x] w fun e w' => e = .returned (.int .i64 (min (max x a) b)) ∧ Below w.heap.size w w' := by
  have HB := Lib.hid (nbel_alloc w (.cells #[.int .i64 a, .int .i64 b] 135))
  by_cases h1 : x < a
  · by_cases h2 : b < a
    · have e1 : Hid (min (max x a) b = b) := by show _ = _; omega
      go_enter Tryz.func103, Tryz.ntmps103
      go_wp2_with fail
      go_ret
      exact ⟨by rw [e1.out]; rfl, HB.out⟩
    · have e1 : Hid (min (max x a) b = a) := by show _ = _; omega
      go_enter Tryz.func103, Tryz.ntmps103
      go_wp2_with fail
      go_ret
      exact ⟨by rw [e1.out]; rfl, HB.out⟩
  · by_cases h2 : b < x
    · have e1 : Hid (min (max x a) b = b) := by show _ = _; omega
      go_enter Tryz.func103, Tryz.ntmps103
      go_wp2_with fail
      go_ret
      exact ⟨by rw [e1.out]; rfl, HB.out⟩
    · have e1 : Hid (min (max x a) b = x) := by show _ = _; omega
      go_enter Tryz.func103, Tryz.ntmps103
      go_wp2_with fail
      go_ret
      exact ⟨by rw [e1.out]; rfl, HB.out⟩
/-- What is read while one number's room is taken. -/
structure RqS (m : Mn.Mains) (la : Option Addr) (ln lk gk : Nat) (fa : Option Addr) (fc : Nat) (w W : World) : Prop where
  rr : W.rowIs w.heap.size 70 3 (rowN [.slice la ln lk, .slice (some ⟨gk, 0, none⟩) m.pn m.pn, .slice fa m.pn fc])
  re : W.rowIs (w.heap.size + 1) 135 2 (rowN [.int .i64 0, .int .i64 0])
  old : Below w.heap.size w W
theorem RqS.below {m : Mn.Mains} {la : Option Addr} {ln lk gk : Nat} {fa : Option Addr} {fc : Nat} {w W W' : World} (h : RqS m la ln lk gk fa fc w W) (hb : Below W.heap.size W W') : RqS m la ln lk gk fa fc w W' := ⟨nrow_below h.rr hb, nrow_below h.re hb, h.old.trans (hb.mono h.old.size)⟩
theorem RqS.put {m : Mn.Mains} {la : Option Addr} {ln lk gk : Nat} {fa : Option Addr} {fc : Nat} {w W : World} (h : RqS m la ln lk gk fa fc w W) (i : Nat) (v : Value) : RqS m la ln lk gk fa fc w (W.setCell ⟨w.heap.size + 2, i, none⟩ v) := ⟨h.rr.of_block (Below.heap_setCell _ _ _ _ (by show w.heap.size ≠ w.heap.size + 2; omega)), h.re.of_block (Below.heap_setCell _ _ _ _ (by show w.heap.size + 1 ≠ w.heap.size + 2; omega)), h.old.setCell (p := ⟨w.heap.size + 2, i, none⟩) (by show w.heap.size ≤ w.heap.size + 2; omega) _⟩
structure RoS (m : Mn.Mains) (la : Option Addr) (ln lk gk : Nat) (fa : Option Addr) (fc : Nat) (A B : Int) (w W : World) : Prop where
  q : RqS m la ln lk gk fa fc w W
  rm : W.rowIs (w.heap.size + 2) 135 2 (rowN [.int .i64 A, .int .i64 B])
set_option maxRecDepth 100000 in
set_option maxHeartbeats 8000000 in
theorem room_any (m : Mn.Mains) (la : Option Addr) (ln lk gk : Nat) (fa : Option Addr) (fc : Nat) (f : Nat → Int) (xa : Option Addr) (n xc : Nat) (L : Nat → Int) (w : World) (hk : KdBlk gk m w) (hf : IsAt fa m.pn f w) (hx : IsAt xa n L w) (hr : Mn.Right m) (ho : Mn.AllOk m f) (hn : ∀ k, k < n → Mn.NumOk m (L k)) (hn40 : n ≤ 40) :
    Calls Tryz.prog 102 #[rmV la ln lk gk m.pn fa fc, .slice xa n xc] w fun e w' => e = .returned (spanV (Mn.roomTo m f L n).1 (Mn.roomTo m f L n).2) ∧ Below w.heap.size w w' := by
  obtain ⟨W0, hW0⟩ : ∃ W0, W0 = ((w.alloc (.cells #[.slice la ln lk, .slice (some ⟨gk, 0, none⟩) m.pn m.pn, .slice fa m.pn fc] 70)).alloc (.cells #[.int .i64 0, .int .i64 0] 135)).alloc (.cells #[.int .i64 (-200000), .int .i64 200000] 135) := ⟨_, rfl⟩
  have ST : Hid (RoS m la ln lk gk fa fc (Mn.roomTo m f L 0).1 (Mn.roomTo m f L 0).2 w W0) := by
    show RoS _ _ _ _ _ _ _ _ _ _ _
    rw [hW0]
    exact ⟨⟨nrow_below (nrow_below (rowN_alloc w _ _) (nbel_alloc _ _)) (nbel_alloc _ _), nrow_below (rowN_alloc' (by simp) _ _) (nbel_alloc _ _), mbel3 _ _ _ _⟩, rowN_alloc' (by simp) _ _⟩
  have HW0 := Lib.hid hW0
  have hpn := hr.pn
  have HK := Lib.hid hk
  have HF := Lib.hid hf
  have HR := Lib.hid hr
  have HO := Lib.hid ho
  have HX := Lib.hid hx
  have HN := Lib.hid hn
  clear hk hf hr ho hx hn hW0
  go_enter Tryz.func102, Tryz.ntmps102
  go_wp2_with fail
  rw [← HW0.out]
  clear HW0
  go_loopw [13] (fun iv wr => ∃ (k : Nat), k ≤ n ∧ iv = .int .i64 k ∧ Hid (RoS m la ln lk gk fa fc (Mn.roomTo m f L k).1 (Mn.roomTo m f L k).2 w wr)) (fun iv _ => n - (intOf iv).toNat)
  case atStart => exact ⟨0, Nat.zero_le _, rfl, ST⟩
  case round =>
    obtain ⟨k, hk, rfl, SX⟩ := hrel
    clear ST
    by_cases hlt : k < n
    · have hltz : (k : Int) < (n : Int) := by omega
      have hk40 : (k : Int) ≤ 39 := by omega
      obtain ⟨xb, e, dx⟩ := (HX.out.below SX.out.q.old).at1 hlt
      subst e
      have nk := HN.out k hlt
      obtain ⟨pp, hpe⟩ : ∃ pp, pp = Mn.place (L k) := ⟨_, rfl⟩
      have hpp : pp < m.pn := by rw [hpe]; exact nk.lt
      have HPP := Lib.hid (HR.out.p pp hpp)
      have fbd := Mn.okF_bd HPP.out (HO.out pp hpp)
      have lh := Mn.lohi HPP.out
      obtain ⟨KT, KV, ff, rr, hkv, hm, he, hc⟩ := mayBe_of m pp HPP.out
      have HC := Lib.hid hc
      have ck0 := kd_cell HK.out hpp
      rw [hkv] at ck0
      have CK := Lib.hid ck0
      obtain ⟨fb, ef, df⟩ := HF.out.at1 hpp
      subst ef
      have DF := Lib.hid df
      have hppz : ((pp : Nat) : Int) < (m.pn : Int) := by omega
      obtain ⟨wy, hwy⟩ : ∃ wy, wy = wayI (L k) := ⟨_, rfl⟩
      obtain ⟨sA, hsA⟩ : ∃ sA, sA = if L k < 0 then -(Mn.hi m pp) else Mn.lo m pp := ⟨_, rfl⟩
      obtain ⟨sB, hsB⟩ : ∃ sB, sB = if L k < 0 then -(Mn.lo m pp) else Mn.hi m pp := ⟨_, rfl⟩
      have HSN : Hid ((wy = -1 ∧ sA = -(Mn.hi m pp) ∧ sB = -(Mn.lo m pp) ∧ -1000000 ≤ Mn.lo m pp ∧ Mn.lo m pp ≤ 1000000 ∧ -1000000 ≤ Mn.hi m pp ∧ Mn.hi m pp ≤ 1000000) ∨ (wy = 1 ∧ sA = Mn.lo m pp ∧ sB = Mn.hi m pp)) := by
        show _ ∨ _
        rw [hwy, hsA, hsB]
        unfold wayI
        by_cases hz : L k < 0
        · exact Or.inl ⟨by simp [hz], by simp [hz], by simp [hz], by omega, by omega, by omega, by omega⟩
        · right; simp [hz]
      have HQ1 : Hid (IntKind.i64.wrap (wy * f pp) = wy * f pp) := by
        rcases HSN.out with ⟨e, _⟩ | ⟨e, _⟩ <;> rw [e] <;> exact mwrap_id (by omega) (by omega)
      have HLA : Hid (sA - wy * f pp = Mn.loK m f (L k)) := by
        show _ = _
        unfold Mn.loK
        rw [hsA, hwy, ← hpe]
        unfold wayI
        by_cases hz : L k < 0
        · simp only [hz, if_true]; omega
        · simp only [hz, if_false]; omega
      have HLB : Hid (sB - wy * f pp = Mn.hiK m f (L k)) := by
        show _ = _
        unfold Mn.hiK
        rw [hsB, hwy, ← hpe]
        unfold wayI
        by_cases hz : L k < 0
        · simp only [hz, if_true]; omega
        · simp only [hz, if_false]; omega
      have kb := Mn.k_bd HR.out HO.out nk
      have HL1 : Hid (-1000000 ≤ sA - wy * f pp ∧ sA - wy * f pp ≤ 1000000) := by show _ ∧ _; rw [HLA.out]; omega
      have HL2 : Hid (-1000000 ≤ sB - wy * f pp ∧ sB - wy * f pp ≤ 1000000) := by show _ ∧ _; rw [HLB.out]; omega
      obtain ⟨A, hA⟩ : ∃ A, A = (Mn.roomTo m f L k).1 := ⟨_, rfl⟩
      obtain ⟨B, hB⟩ : ∃ B, B = (Mn.roomTo m f L k).2 := ⟨_, rfl⟩
      rw [← hA, ← hB] at SX
      have HRA := Lib.hid hA
      have HRB := Lib.hid hB
      have NK := Lib.hid nk
      have HPE := Lib.hid hpe
      have HPN := Lib.hid hpn
      have HWY := Lib.hid hwy
      clear fbd lh df nk hpe hc hkv ck0 hwy hsA hsB hA hB kb
      go_wp2_with fail
      refine (passed_any (L k) _ NK.out.1 (by have := NK.out.2; have := HPN.out; omega) (by have := NK.out.2; have := HPN.out; omega)).mono ?_
      rintro e w2 ⟨rfl, e2⟩
      subst w2
      rw [← HPE.out, ← HWY.out]
      go_wp2_with fail
      clear dx
      refine wp_region_held_drew (S := RqS m la ln lk gk (some ⟨fb, 0, none⟩) fc w) (by kernel_rfl) (SX.out.q.below (Below.refl _ _).drew) (fun hHeld => ?_)
      obtain ⟨Z, hZ⟩ : ∃ Z, Z = wr.drew := ⟨_, rfl⟩
      have RM : Hid (Z.rowIs (w.heap.size + 2) 135 2 (rowN [.int .i64 A, .int .i64 B])) := by show World.rowIs _ _ _ _ _; rw [hZ]; exact nrow_below SX.out.rm (Below.refl _ _).drew
      rw [← hZ] at hHeld ⊢
      clear hZ SX
      refine take_do (i := 1) (v := (.pointer (some ⟨w.heap.size, 1, none⟩))) rfl (by kernel_rfl) (by kernel_rfl) (by kernel_rfl) (fun _ _ _ h => h) (by rfl) ?_ (by assumption) ?_
      · intro w' hSw
        skip
        go_simp
      simp only [Act.put, List.setIfInBounds_toArray, List.set_cons_zero, List.set_cons_succ]
      refine take_do (i := 2) (v := (.slice (some ⟨gk, 0, none⟩) m.pn m.pn)) rfl (by kernel_rfl) (by kernel_rfl) (by kernel_rfl) (fun _ _ _ h => h) (by rfl) ?_ (by assumption) ?_
      · intro w' hSw
        obtain ⟨⟨r0, r1, r2⟩, _⟩ := rowN3 hSw.rr
        go_simp
      simp only [Act.put, List.setIfInBounds_toArray, List.set_cons_zero, List.set_cons_succ]
      refine take_do (i := 3) (v := (.int .i64 ((pp : Nat) : Int))) rfl (by kernel_rfl) (by kernel_rfl) (by kernel_rfl) (fun _ _ _ h => h) (by rfl) ?_ (by assumption) ?_
      · intro w' hSw
        skip
        go_simp
      simp only [Act.put, List.setIfInBounds_toArray, List.set_cons_zero, List.set_cons_succ]
      refine take_do (i := 4) (v := (.pointer (some ⟨gk, pp, none⟩))) rfl (by kernel_rfl) (by kernel_rfl) (by kernel_rfl) (fun _ _ _ h => h) (by rfl) ?_ (by assumption) ?_
      · intro w' hSw
        skip
        go_simp
      simp only [Act.put, List.setIfInBounds_toArray, List.set_cons_zero, List.set_cons_succ]
      refine take_do (i := 5) (v := (.iface KT KV)) rfl (by kernel_rfl) (by kernel_rfl) (by kernel_rfl) (fun _ _ _ h => h) (by rfl) ?_ (by assumption) ?_
      · intro w' hSw
        have ck := (hSw.old.cell (World.block_lt_of_cell? _ _ CK.out)).trans CK.out
        go_simp
      simp only [Act.put, List.setIfInBounds_toArray, List.set_cons_zero, List.set_cons_succ]
      refine take_do (i := 7) (v := (.int .i64 wy)) rfl (by kernel_rfl) (by kernel_rfl) (by kernel_rfl) (fun _ _ _ h => h) (by rfl) ?_ (by assumption) ?_
      · intro w' hSw
        skip
        go_simp
      simp only [Act.put, List.setIfInBounds_toArray, List.set_cons_zero, List.set_cons_succ]
      refine take_do (i := 9) (v := (.int .i64 wy)) rfl (by kernel_rfl) (by kernel_rfl) (by kernel_rfl) (fun _ _ _ h => h) (by rfl) ?_ (by assumption) ?_
      · intro w' hSw
        skip
        go_simp
      simp only [Act.put, List.setIfInBounds_toArray, List.set_cons_zero, List.set_cons_succ]
      refine take_do (i := 10) (v := (.pointer (some ⟨w.heap.size, 2, none⟩))) rfl (by kernel_rfl) (by kernel_rfl) (by kernel_rfl) (fun _ _ _ h => h) (by rfl) ?_ (by assumption) ?_
      · intro w' hSw
        skip
        go_simp
      simp only [Act.put, List.setIfInBounds_toArray, List.set_cons_zero, List.set_cons_succ]
      refine take_do (i := 11) (v := (.slice (some ⟨fb, 0, none⟩) m.pn fc)) rfl (by kernel_rfl) (by kernel_rfl) (by kernel_rfl) (fun _ _ _ h => h) (by rfl) ?_ (by assumption) ?_
      · intro w' hSw
        obtain ⟨⟨r0, r1, r2⟩, _⟩ := rowN3 hSw.rr
        go_simp
      simp only [Act.put, List.setIfInBounds_toArray, List.set_cons_zero, List.set_cons_succ]
      refine take_do (i := 12) (v := (.int .i64 ((pp : Nat) : Int))) rfl (by kernel_rfl) (by kernel_rfl) (by kernel_rfl) (fun _ _ _ h => h) (by rfl) ?_ (by assumption) ?_
      · intro w' hSw
        skip
        go_simp
      simp only [Act.put, List.setIfInBounds_toArray, List.set_cons_zero, List.set_cons_succ]
      refine take_do (i := 13) (v := (.pointer (some ⟨fb, pp, none⟩))) rfl (by kernel_rfl) (by kernel_rfl) (by kernel_rfl) (fun _ _ _ h => h) (by rfl) ?_ (by assumption) ?_
      · intro w' hSw
        skip
        go_simp
      simp only [Act.put, List.setIfInBounds_toArray, List.set_cons_zero, List.set_cons_succ]
      refine take_do (i := 14) (v := (.int .i64 (f pp))) rfl (by kernel_rfl) (by kernel_rfl) (by kernel_rfl) (fun _ _ _ h => h) (by rfl) ?_ (by assumption) ?_
      · intro w' hSw
        have df := (hSw.old.cell (World.block_lt_of_cell? _ _ DF.out)).trans DF.out
        go_simp
      simp only [Act.put, List.setIfInBounds_toArray, List.set_cons_zero, List.set_cons_succ]
      refine take_do (i := 15) (v := (.int .i64 (wy * f pp))) rfl (by kernel_rfl) (by kernel_rfl) (by kernel_rfl) (fun _ _ _ h => h) (by rfl) ?_ (by assumption) ?_
      · intro w' hSw
        have hq := HQ1.out
        go_simp
      simp only [Act.put, List.setIfInBounds_toArray, List.set_cons_zero, List.set_cons_succ]
      refine wpAnyH_ready (rs := [0, 6]) (by kernel_rfl) (by simp) (AllReadyH.cons (at_drop (i := 0) rfl) (fun K2 hK => ?_) (AllReadyH.cons (at_drop (i := 6) rfl) (fun K2 hK => ?_) (AllReadyH.nil)))
      · obtain ⟨⟨o0, o1⟩, _⟩ := rowN2 RM.out
        go_simp
        refine hK.out _ _ hHeld (fun hHeld2 => ?_)
        clear hK hHeld
        have hHeld := hHeld2
        clear hHeld2
        clear o0 o1
        refine take_call (i := 6) rfl (by kernel_rfl) (fun K2 hK => ?_)
        go_simp
        refine (HC.out _).mono ?_
        rintro e Z1 ⟨rfl, hb⟩
        go_wp2_with fail
        replace RM := Lib.hid (nrow_below RM.out hb)
        refine hK.out _ _ (hHeld.below hb) (fun hHeld2 => ?_)
        clear hK hHeld
        have hHeld := hHeld2
        clear hHeld2
        clear hb
        refine take_call (i := 8) rfl (by kernel_rfl) (fun K2 hK => ?_)
        go_simp
        refine (seen_any _ _ wy sA sB HSN.out _).mono ?_
        rintro e Z2 ⟨rfl, hb⟩
        go_wp2_with fail
        replace RM := Lib.hid (nrow_below RM.out hb)
        refine hK.out _ _ (hHeld.below hb) (fun hHeld2 => ?_)
        clear hK hHeld
        have hHeld := hHeld2
        clear hHeld2
        clear hb
        refine take_call (i := 16) rfl (by kernel_rfl) (fun K2 hK => ?_)
        go_simp
        refine (lower_any sA sB (wy * f pp) _ HL1.out HL2.out).mono ?_
        rintro e Z3 ⟨rfl, hb⟩
        go_wp2_with fail
        replace RM := Lib.hid (nrow_below RM.out hb)
        refine hK.out _ _ (hHeld.below hb) (fun hHeld2 => ?_)
        clear hK hHeld
        have hHeld := hHeld2
        clear hHeld2
        clear hb
        refine take_call (i := 17) rfl (by kernel_rfl) (fun K2 hK => ?_)
        go_simp
        rw [HLA.out, HLB.out]
        refine (common_any A B (Mn.loK m f (L k)) (Mn.hiK m f (L k)) _).mono ?_
        rintro e Z4 ⟨rfl, hb⟩
        obtain ⟨A2, hA2⟩ : ∃ A2, A2 = max A (Mn.loK m f (L k)) := ⟨_, rfl⟩
        obtain ⟨B2, hB2⟩ : ∃ B2, B2 = min B (Mn.hiK m f (L k)) := ⟨_, rfl⟩
        rw [← hA2, ← hB2]
        have HAB : Hid (A2 = max A (Mn.loK m f (L k)) ∧ B2 = min B (Mn.hiK m f (L k))) := ⟨hA2, hB2⟩
        clear hA2 hB2
        go_wp2_with fail
        replace RM := Lib.hid (nrow_below RM.out hb)
        refine hK.out _ _ (hHeld.below hb) (fun hHeld2 => ?_)
        clear hK hHeld
        have hHeld := hHeld2
        clear hHeld2
        clear hb
        obtain ⟨⟨o0, o1⟩, z0, z1⟩ := rowN2 RM.out
        have l0 := RM.out.lt
        obtain ⟨WZ, hWZ⟩ : ∃ WZ, WZ = (Z4.setCell ⟨w.heap.size + 2, 0, none⟩ (.int .i64 A2)).setCell ⟨w.heap.size + 2, 1, none⟩ (.int .i64 B2) := ⟨_, rfl⟩
        have HBZ : Hid (RqS m la ln lk gk (some ⟨fb, 0, none⟩) fc w WZ) := by
          show RqS _ _ _ _ _ _ _ _ _
          rw [hWZ]
          exact (hHeld.put 0 _).put 1 _
        have HFM : Hid (WZ.rowIs (w.heap.size + 2) 135 2 (rowN [.int .i64 A2, .int .i64 B2])) := by
          show World.rowIs _ _ _ _ _
          rw [hWZ]
          exact rowN_put (rowN_put RM.out 0 (.int .i64 A2) (by simp)) 1 (.int .i64 B2) (by simp)
        have HWZ := Lib.hid hWZ
        clear hWZ
        refine take_call (i := 18) rfl (by kernel_rfl) (fun K2 hK => ?_)
        go_simp
        rw [← HWZ.out]
        refine hK.out _ _ HBZ.out (fun hHeld2 => ?_)
        clear hK hHeld hHeld2 HWZ o0 o1 z0 z1 l0 RM
        refine wpAnyH_done (by kernel_rfl) ?_ _
        have S9 : Hid (RoS m la ln lk gk (some ⟨fb, 0, none⟩) fc (Mn.roomTo m f L (k + 1)).1 (Mn.roomTo m f L (k + 1)).2 w WZ) := ⟨HBZ.out, by
          rw [show (Mn.roomTo m f L (k + 1)).1 = A2 by rw [HAB.out.1, HRA.out]; rfl, show (Mn.roomTo m f L (k + 1)).2 = B2 by rw [HAB.out.2, HRB.out]; rfl]
          exact HFM.out⟩
        clear HBZ HFM
        go_wp2_with fail
        go_roundw
        case rel => exact ⟨k + 1, by omega, by go_num, S9⟩
        case measure => simp [intOf]; omega
      · go_simp
        refine (HC.out _).mono ?_
        rintro e Z5 ⟨rfl, hb⟩
        go_wp2_with fail
        replace RM := Lib.hid (nrow_below RM.out hb)
        refine hK.out _ _ (hHeld.below hb) (fun hHeld2 => ?_)
        clear hK hHeld
        have hHeld := hHeld2
        clear hHeld2
        clear hb
        refine wpAnyH_ready (rs := [0, 8]) (by kernel_rfl) (by simp) (AllReadyH.cons (at_drop (i := 0) rfl) (fun K2 hK => ?_) (AllReadyH.cons (at_drop (i := 8) rfl) (fun K2 hK => ?_) (AllReadyH.nil)))
        · obtain ⟨⟨o0, o1⟩, _⟩ := rowN2 RM.out
          go_simp
          refine hK.out _ _ hHeld (fun hHeld2 => ?_)
          clear hK hHeld
          have hHeld := hHeld2
          clear hHeld2
          clear o0 o1
          refine take_call (i := 8) rfl (by kernel_rfl) (fun K2 hK => ?_)
          go_simp
          refine (seen_any _ _ wy sA sB HSN.out _).mono ?_
          rintro e Z6 ⟨rfl, hb⟩
          go_wp2_with fail
          replace RM := Lib.hid (nrow_below RM.out hb)
          refine hK.out _ _ (hHeld.below hb) (fun hHeld2 => ?_)
          clear hK hHeld
          have hHeld := hHeld2
          clear hHeld2
          clear hb
          refine take_call (i := 16) rfl (by kernel_rfl) (fun K2 hK => ?_)
          go_simp
          refine (lower_any sA sB (wy * f pp) _ HL1.out HL2.out).mono ?_
          rintro e Z7 ⟨rfl, hb⟩
          go_wp2_with fail
          replace RM := Lib.hid (nrow_below RM.out hb)
          refine hK.out _ _ (hHeld.below hb) (fun hHeld2 => ?_)
          clear hK hHeld
          have hHeld := hHeld2
          clear hHeld2
          clear hb
          refine take_call (i := 17) rfl (by kernel_rfl) (fun K2 hK => ?_)
          go_simp
          rw [HLA.out, HLB.out]
          refine (common_any A B (Mn.loK m f (L k)) (Mn.hiK m f (L k)) _).mono ?_
          rintro e Z8 ⟨rfl, hb⟩
          obtain ⟨A2, hA2⟩ : ∃ A2, A2 = max A (Mn.loK m f (L k)) := ⟨_, rfl⟩
          obtain ⟨B2, hB2⟩ : ∃ B2, B2 = min B (Mn.hiK m f (L k)) := ⟨_, rfl⟩
          rw [← hA2, ← hB2]
          have HAB : Hid (A2 = max A (Mn.loK m f (L k)) ∧ B2 = min B (Mn.hiK m f (L k))) := ⟨hA2, hB2⟩
          clear hA2 hB2
          go_wp2_with fail
          replace RM := Lib.hid (nrow_below RM.out hb)
          refine hK.out _ _ (hHeld.below hb) (fun hHeld2 => ?_)
          clear hK hHeld
          have hHeld := hHeld2
          clear hHeld2
          clear hb
          obtain ⟨⟨o0, o1⟩, z0, z1⟩ := rowN2 RM.out
          have l0 := RM.out.lt
          obtain ⟨WZ, hWZ⟩ : ∃ WZ, WZ = (Z8.setCell ⟨w.heap.size + 2, 0, none⟩ (.int .i64 A2)).setCell ⟨w.heap.size + 2, 1, none⟩ (.int .i64 B2) := ⟨_, rfl⟩
          have HBZ : Hid (RqS m la ln lk gk (some ⟨fb, 0, none⟩) fc w WZ) := by
            show RqS _ _ _ _ _ _ _ _ _
            rw [hWZ]
            exact (hHeld.put 0 _).put 1 _
          have HFM : Hid (WZ.rowIs (w.heap.size + 2) 135 2 (rowN [.int .i64 A2, .int .i64 B2])) := by
            show World.rowIs _ _ _ _ _
            rw [hWZ]
            exact rowN_put (rowN_put RM.out 0 (.int .i64 A2) (by simp)) 1 (.int .i64 B2) (by simp)
          have HWZ := Lib.hid hWZ
          clear hWZ
          refine take_call (i := 18) rfl (by kernel_rfl) (fun K2 hK => ?_)
          go_simp
          rw [← HWZ.out]
          refine hK.out _ _ HBZ.out (fun hHeld2 => ?_)
          clear hK hHeld hHeld2 HWZ o0 o1 z0 z1 l0 RM
          refine wpAnyH_done (by kernel_rfl) ?_ _
          have S9 : Hid (RoS m la ln lk gk (some ⟨fb, 0, none⟩) fc (Mn.roomTo m f L (k + 1)).1 (Mn.roomTo m f L (k + 1)).2 w WZ) := ⟨HBZ.out, by
            rw [show (Mn.roomTo m f L (k + 1)).1 = A2 by rw [HAB.out.1, HRA.out]; rfl, show (Mn.roomTo m f L (k + 1)).2 = B2 by rw [HAB.out.2, HRB.out]; rfl]
            exact HFM.out⟩
          clear HBZ HFM
          go_wp2_with fail
          go_roundw
          case rel => exact ⟨k + 1, by omega, by go_num, S9⟩
          case measure => simp [intOf]; omega
        · go_simp
          refine (seen_any _ _ wy sA sB HSN.out _).mono ?_
          rintro e Z9 ⟨rfl, hb⟩
          go_wp2_with fail
          replace RM := Lib.hid (nrow_below RM.out hb)
          refine hK.out _ _ (hHeld.below hb) (fun hHeld2 => ?_)
          clear hK hHeld
          have hHeld := hHeld2
          clear hHeld2
          clear hb
          refine wpAnyH_ready (rs := [0, 16]) (by kernel_rfl) (by simp) (AllReadyH.cons (at_drop (i := 0) rfl) (fun K2 hK => ?_) (AllReadyH.cons (at_drop (i := 16) rfl) (fun K2 hK => ?_) (AllReadyH.nil)))
          · obtain ⟨⟨o0, o1⟩, _⟩ := rowN2 RM.out
            go_simp
            refine hK.out _ _ hHeld (fun hHeld2 => ?_)
            clear hK hHeld
            have hHeld := hHeld2
            clear hHeld2
            clear o0 o1
            refine take_call (i := 16) rfl (by kernel_rfl) (fun K2 hK => ?_)
            go_simp
            refine (lower_any sA sB (wy * f pp) _ HL1.out HL2.out).mono ?_
            rintro e Z10 ⟨rfl, hb⟩
            go_wp2_with fail
            replace RM := Lib.hid (nrow_below RM.out hb)
            refine hK.out _ _ (hHeld.below hb) (fun hHeld2 => ?_)
            clear hK hHeld
            have hHeld := hHeld2
            clear hHeld2
            clear hb
            refine take_call (i := 17) rfl (by kernel_rfl) (fun K2 hK => ?_)
            go_simp
            rw [HLA.out, HLB.out]
            refine (common_any A B (Mn.loK m f (L k)) (Mn.hiK m f (L k)) _).mono ?_
            rintro e Z11 ⟨rfl, hb⟩
            obtain ⟨A2, hA2⟩ : ∃ A2, A2 = max A (Mn.loK m f (L k)) := ⟨_, rfl⟩
            obtain ⟨B2, hB2⟩ : ∃ B2, B2 = min B (Mn.hiK m f (L k)) := ⟨_, rfl⟩
            rw [← hA2, ← hB2]
            have HAB : Hid (A2 = max A (Mn.loK m f (L k)) ∧ B2 = min B (Mn.hiK m f (L k))) := ⟨hA2, hB2⟩
            clear hA2 hB2
            go_wp2_with fail
            replace RM := Lib.hid (nrow_below RM.out hb)
            refine hK.out _ _ (hHeld.below hb) (fun hHeld2 => ?_)
            clear hK hHeld
            have hHeld := hHeld2
            clear hHeld2
            clear hb
            obtain ⟨⟨o0, o1⟩, z0, z1⟩ := rowN2 RM.out
            have l0 := RM.out.lt
            obtain ⟨WZ, hWZ⟩ : ∃ WZ, WZ = (Z11.setCell ⟨w.heap.size + 2, 0, none⟩ (.int .i64 A2)).setCell ⟨w.heap.size + 2, 1, none⟩ (.int .i64 B2) := ⟨_, rfl⟩
            have HBZ : Hid (RqS m la ln lk gk (some ⟨fb, 0, none⟩) fc w WZ) := by
              show RqS _ _ _ _ _ _ _ _ _
              rw [hWZ]
              exact (hHeld.put 0 _).put 1 _
            have HFM : Hid (WZ.rowIs (w.heap.size + 2) 135 2 (rowN [.int .i64 A2, .int .i64 B2])) := by
              show World.rowIs _ _ _ _ _
              rw [hWZ]
              exact rowN_put (rowN_put RM.out 0 (.int .i64 A2) (by simp)) 1 (.int .i64 B2) (by simp)
            have HWZ := Lib.hid hWZ
            clear hWZ
            refine take_call (i := 18) rfl (by kernel_rfl) (fun K2 hK => ?_)
            go_simp
            rw [← HWZ.out]
            refine hK.out _ _ HBZ.out (fun hHeld2 => ?_)
            clear hK hHeld hHeld2 HWZ o0 o1 z0 z1 l0 RM
            refine wpAnyH_done (by kernel_rfl) ?_ _
            have S9 : Hid (RoS m la ln lk gk (some ⟨fb, 0, none⟩) fc (Mn.roomTo m f L (k + 1)).1 (Mn.roomTo m f L (k + 1)).2 w WZ) := ⟨HBZ.out, by
              rw [show (Mn.roomTo m f L (k + 1)).1 = A2 by rw [HAB.out.1, HRA.out]; rfl, show (Mn.roomTo m f L (k + 1)).2 = B2 by rw [HAB.out.2, HRB.out]; rfl]
              exact HFM.out⟩
            clear HBZ HFM
            go_wp2_with fail
            go_roundw
            case rel => exact ⟨k + 1, by omega, by go_num, S9⟩
            case measure => simp [intOf]; omega
          · go_simp
            refine (lower_any sA sB (wy * f pp) _ HL1.out HL2.out).mono ?_
            rintro e Z12 ⟨rfl, hb⟩
            go_wp2_with fail
            replace RM := Lib.hid (nrow_below RM.out hb)
            refine hK.out _ _ (hHeld.below hb) (fun hHeld2 => ?_)
            clear hK hHeld
            have hHeld := hHeld2
            clear hHeld2
            clear hb
            refine take_call (i := 0) rfl (by kernel_rfl) (fun K2 hK => ?_)
            obtain ⟨⟨o0, o1⟩, _⟩ := rowN2 RM.out
            go_simp
            refine hK.out _ _ hHeld (fun hHeld2 => ?_)
            clear hK hHeld
            have hHeld := hHeld2
            clear hHeld2
            clear o0 o1
            refine take_call (i := 17) rfl (by kernel_rfl) (fun K2 hK => ?_)
            go_simp
            rw [HLA.out, HLB.out]
            refine (common_any A B (Mn.loK m f (L k)) (Mn.hiK m f (L k)) _).mono ?_
            rintro e Z13 ⟨rfl, hb⟩
            obtain ⟨A2, hA2⟩ : ∃ A2, A2 = max A (Mn.loK m f (L k)) := ⟨_, rfl⟩
            obtain ⟨B2, hB2⟩ : ∃ B2, B2 = min B (Mn.hiK m f (L k)) := ⟨_, rfl⟩
            rw [← hA2, ← hB2]
            have HAB : Hid (A2 = max A (Mn.loK m f (L k)) ∧ B2 = min B (Mn.hiK m f (L k))) := ⟨hA2, hB2⟩
            clear hA2 hB2
            go_wp2_with fail
            replace RM := Lib.hid (nrow_below RM.out hb)
            refine hK.out _ _ (hHeld.below hb) (fun hHeld2 => ?_)
            clear hK hHeld
            have hHeld := hHeld2
            clear hHeld2
            clear hb
            obtain ⟨⟨o0, o1⟩, z0, z1⟩ := rowN2 RM.out
            have l0 := RM.out.lt
            obtain ⟨WZ, hWZ⟩ : ∃ WZ, WZ = (Z13.setCell ⟨w.heap.size + 2, 0, none⟩ (.int .i64 A2)).setCell ⟨w.heap.size + 2, 1, none⟩ (.int .i64 B2) := ⟨_, rfl⟩
            have HBZ : Hid (RqS m la ln lk gk (some ⟨fb, 0, none⟩) fc w WZ) := by
              show RqS _ _ _ _ _ _ _ _ _
              rw [hWZ]
              exact (hHeld.put 0 _).put 1 _
            have HFM : Hid (WZ.rowIs (w.heap.size + 2) 135 2 (rowN [.int .i64 A2, .int .i64 B2])) := by
              show World.rowIs _ _ _ _ _
              rw [hWZ]
              exact rowN_put (rowN_put RM.out 0 (.int .i64 A2) (by simp)) 1 (.int .i64 B2) (by simp)
            have HWZ := Lib.hid hWZ
            clear hWZ
            refine take_call (i := 18) rfl (by kernel_rfl) (fun K2 hK => ?_)
            go_simp
            rw [← HWZ.out]
            refine hK.out _ _ HBZ.out (fun hHeld2 => ?_)
            clear hK hHeld hHeld2 HWZ o0 o1 z0 z1 l0 RM
            refine wpAnyH_done (by kernel_rfl) ?_ _
            have S9 : Hid (RoS m la ln lk gk (some ⟨fb, 0, none⟩) fc (Mn.roomTo m f L (k + 1)).1 (Mn.roomTo m f L (k + 1)).2 w WZ) := ⟨HBZ.out, by
              rw [show (Mn.roomTo m f L (k + 1)).1 = A2 by rw [HAB.out.1, HRA.out]; rfl, show (Mn.roomTo m f L (k + 1)).2 = B2 by rw [HAB.out.2, HRB.out]; rfl]
              exact HFM.out⟩
            clear HBZ HFM
            go_wp2_with fail
            go_roundw
            case rel => exact ⟨k + 1, by omega, by go_num, S9⟩
            case measure => simp [intOf]; omega
    · obtain rfl : k = n := by omega
      obtain ⟨⟨a0, a1⟩, _⟩ := rowN2 SX.out.rm
      obtain ⟨⟨b0, b1⟩, y0, y1⟩ := rowN2 SX.out.q.re
      have lx := SX.out.q.re.lt
      obtain ⟨A, hA⟩ : ∃ A, A = (Mn.roomTo m f L k).1 := ⟨_, rfl⟩
      obtain ⟨B, hB⟩ : ∃ B, B = (Mn.roomTo m f L k).2 := ⟨_, rfl⟩
      rw [← hA] at a0
      rw [← hB] at a1
      have HA := Lib.hid hA
      have HB := Lib.hid hB
      have R := Lib.hid (rowN_put (rowN_put SX.out.q.re 0 (.int .i64 A) (by simp)) 1 (.int .i64 B) (by simp))
      have BE : Hid (Below w.heap.size w ((wr.setCell ⟨w.heap.size + 1, 0, none⟩ (.int .i64 A)).setCell ⟨w.heap.size + 1, 1, none⟩ (.int .i64 B))) := (SX.out.q.old.setCell (p := ⟨w.heap.size + 1, 0, none⟩) (by show w.heap.size ≤ w.heap.size + 1; omega) _).setCell (p := ⟨w.heap.size + 1, 1, none⟩) (by show w.heap.size ≤ w.heap.size + 1; omega) _
      clear hA hB
      go_wp2_with fail
      obtain ⟨⟨q0, q1⟩, _⟩ := rowN2 R.out
      refine bodyPost_ret (v := spanV A B) ?_ rfl ⟨by rw [HA.out, HB.out], BE.out⟩
      simp only [results, Tryz.results102]
      simp [go_sem, q0, q1]
end Go.Proofs.YtfgmalnkpgloiaaGreatDoor
