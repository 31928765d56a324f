/-
  The model's WorkLeast.
-/
import Derived.Test.YtganlipebndeoaaDoorJbSh
import Derived.Test.YtganlipebndeoaaDoorReg
import Derived.Deep.AppendLies
namespace Go.Proofs.YtganlipebndeoaaDoor
open Go.RowKit Go.Deep

theorem jwrap {x : Int} (h1 : -9223372036854775808 ≤ x) (h2 : x ≤ 9223372036854775807) : IntKind.i64.wrap x = x := by simp [IntKind.wrap, IntKind.bits, IntKind.signed]; omega
theorem jmax_any (a b : Int) (w : World) :
    Calls Tryd.prog 26 #[.int .i64 a, .int .i64 b] w fun e w' => e = .returned (.int .i64 (max a b)) ∧ w' = w := by
  rcases jmax_cases a b with ⟨q1, q2⟩ | ⟨q1, q2⟩
  · rw [q2]
    clear q2
    by_cases e : a = b
    · subst e
      go_enter Tryd.func26, Tryd.ntmps26
      go_wp2_with fail
      go_ret
      exact ⟨rfl, rfl⟩
    · have q3 : b < a := by omega
      clear e q1
      go_enter Tryd.func26, Tryd.ntmps26
      go_wp2_with fail
      go_ret
      exact ⟨rfl, rfl⟩
  · rw [q2]
    have q3 : ¬ b < a := by omega
    clear q2 q1
    go_enter Tryd.func26, Tryd.ntmps26
    go_wp2_with fail
    go_ret
    exact ⟨rfl, rfl⟩
/-- The jobs and the starts, as the model reads them. -/
structure JS (B : Nat) (a : Option Addr) (m : Nat) (bs : Nat → Je) (c : Option Addr) (n : Nat) (s : Nat → Int) (w W : World) : Prop where
  j : JbsAt a m bs W
  s : IsAt c n s W
  old : Below B w W
theorem JS.below {B : Nat} {a : Option Addr} {m : Nat} {bs : Nat → Je} {c : Option Addr} {n : Nat} {s : Nat → Int} {w W W' : World} (h : JS B a m bs c n s w W) (hb : Below W.heap.size W W') (hB : B ≤ W.heap.size) : JS B a m bs c n s w W' := ⟨h.j.below hb, h.s.below hb, h.old.trans (hb.mono hB)⟩
set_option maxRecDepth 100000 in
set_option maxHeartbeats 4000000 in
theorem sready_any (a : Option Addr) (m k : Nat) (bs : Nat → Je) (c : Option Addr) (n ck : Nat) (s : Nat → Int) (i : Nat) (w : World) (h : JbsAt a m bs w) (hc : IsAt c n s w) (hi : i < m) (hin : i ≤ n) (hr : Pl.Rising (bs i).an (bs i).A i) (hm : m ≤ 1048576) (ha : (bs i).an ≤ 1048576) (hb : Jb.Bnd i bs s 1000000) :
    Calls Tryd.prog 15 #[.slice a m k, .slice c n ck, .int .i64 i] w fun e w' => e = .returned (.int .i64 (Jb.rdy bs s (bs i))) ∧ Below w.heap.size w w' := by
  have hiz : (i : Int) < (m : Int) := by omega
  obtain ⟨q, hq⟩ : ∃ q, q = Jb.rdy bs s (bs i) := ⟨_, rfl⟩
  rw [← hq]
  have HQ : Hid (Jb.rdyTo bs s (bs i) (bs i).an = q) := by show _ = _; rw [hq]; rfl
  obtain ⟨RT, hRT⟩ : ∃ RT, RT = Jb.rdyTo bs s (bs i) := ⟨_, rfl⟩
  rw [← hRT] at HQ
  have R0 : Hid (RT 0 = 0) := by show _ = _; rw [hRT]; rfl
  have RS : Hid (∀ t, RT (t + 1) = max (RT t) (s ((bs i).A t).toNat + (bs ((bs i).A t).toNat).dy)) := fun t => by rw [hRT]; rfl
  have RB : Hid (∀ t, t ≤ (bs i).an → 0 ≤ RT t ∧ RT t ≤ 1000000) := fun t ht => by rw [hRT]; exact ⟨Jb.rdyTo_nn _ _ _ _, Jb.rdyTo_le (by omega) hr hb t ht⟩
  obtain ⟨b, rfl, hcs⟩ := h.all (by omega)
  obtain ⟨⟨dy, cw, pa, an, ak, A, pr, rn, rk, R⟩, hx⟩ : ∃ x, x = bs i := ⟨_, rfl⟩
  rw [← hx] at hr ha RS RB HQ
  simp only at hr ha RS RB HQ
  have HCI : Hid (JeCells b (i * 4) ⟨dy, cw, pa, an, ak, A, pr, rn, rk, R⟩ w) := by rw [hx]; exact (hcs i hi).1
  have HXA : Hid (IsAt pa an A w) := by
    have := (hcs i hi).2.1
    rw [← hx] at this
    exact this
  have HCS : Hid (∀ j, j < m → JeCells b (j * 4) (bs j) w) := fun j hj => (hcs j hj).1
  have HC := Lib.hid hc
  have HR := Lib.hid hr
  have HBN := Lib.hid hb
  clear h hc hr hb hRT hq hcs hx
  go_enter Tryd.func15, Tryd.ntmps15
  go_wp2_with fail
  go_loopw [7, 8, 9] (fun dv iv _ wr => ∃ (t : Nat), t ≤ an ∧ iv = .int .i64 t ∧ dv = .int .i64 (RT t) ∧ Hid (Below w.heap.size w wr)) (fun _ iv _ _ => an - (intOf iv).toNat)
  case atStart => exact ⟨0, Nat.zero_le _, rfl, by rw [R0.out], Below.refl _ _⟩
  case round =>
    obtain ⟨t, ht, rfl, rfl, hB⟩ := hrel
    obtain ⟨i0, i1, i2, i3⟩ := HCI.out.block (hB.out.block _ HCI.out.lt)
    simp only at i0 i1 i2 i3
    by_cases hlt : t < an
    · have hltz : (t : Int) < (an : Int) := by omega
      obtain ⟨b3, e3, c0⟩ := (HXA.out.below hB.out).at1 hlt
      subst e3
      have h1 := (HR.out t hlt).1
      obtain ⟨p, hp⟩ : ∃ p, p = (A t).toNat := ⟨_, rfl⟩
      have hpA : A t = (p : Int) := by omega
      have hpm : p < m := by omega
      have hpn : p < n := by omega
      have hpz : (p : Int) < (m : Int) := by omega
      have hpnz : (p : Int) < (n : Int) := by omega
      rw [hpA] at c0
      obtain ⟨b2, e2, s0⟩ := (HC.out.below hB.out).at1 hpn
      subst e2
      have HJ := Lib.hid ((HCS.out p hpm).block (hB.out.block _ (HCS.out p hpm).lt))
      have hbd := HBN.out p (by omega)
      have HRS : Hid (RT (t + 1) = max (RT t) (s p + (bs p).dy)) := by show _ = _; rw [RS.out t, ← hp]
      obtain ⟨rb1, rb2⟩ := RB.out t (by omega)
      obtain ⟨d0, d1, d2, d3⟩ := HJ.out
      clear h1 hp hpA
      go_wp2_with fail
      refine wp_region_held_drew (S := fun V => Below wr.heap.size wr V) (by kernel_rfl) (Below.refl _ _).drew (fun hHeld => ?_)
      have HS0 : Hid (∀ V, Below wr.heap.size wr V → V.cell? ⟨b2, p, none⟩ = some (.int .i64 (s p)) ∧ V.cell? ⟨b, p * 4, none⟩ = some (.int .i64 (bs p).dy)) := fun V hV => ⟨(hV.cell (World.block_lt_of_cell? _ _ s0)).trans s0, (hV.cell (World.block_lt_of_cell? _ _ d0)).trans d0⟩
      clear i0 i1 i2 i3 c0 s0 d0 d1 d2 d3
      refine take_do (i := 0) (v := (.int .i64 (RT t))) rfl (by kernel_rfl) (by kernel_rfl) (by kernel_rfl) (fun _ _ _ h => h) (by rfl) ?_ (by assumption) ?_
      · intro w hSw
        skip
        go_simp
      simp only [Act.put, List.setIfInBounds_toArray, List.set_cons_zero, List.set_cons_succ]
      refine take_do (i := 1) (v := (.slice (some ⟨b2, 0, none⟩) n ck)) rfl (by kernel_rfl) (by kernel_rfl) (by kernel_rfl) (fun _ _ _ h => h) (by rfl) ?_ (by assumption) ?_
      · intro w hSw
        skip
        go_simp
      simp only [Act.put, List.setIfInBounds_toArray, List.set_cons_zero, List.set_cons_succ]
      refine take_do (i := 2) (v := (.int .i64 p)) rfl (by kernel_rfl) (by kernel_rfl) (by kernel_rfl) (fun _ _ _ h => h) (by rfl) ?_ (by assumption) ?_
      · intro w hSw
        skip
        go_simp
      simp only [Act.put, List.setIfInBounds_toArray, List.set_cons_zero, List.set_cons_succ]
      refine take_do (i := 3) (v := (.pointer (some ⟨b2, p, none⟩))) rfl (by kernel_rfl) (by kernel_rfl) (by kernel_rfl) (fun _ _ _ h => h) (by rfl) ?_ (by assumption) ?_
      · intro w hSw
        skip
        go_simp
      simp only [Act.put, List.setIfInBounds_toArray, List.set_cons_zero, List.set_cons_succ]
      refine take_do (i := 4) (v := (.int .i64 (s p))) rfl (by kernel_rfl) (by kernel_rfl) (by kernel_rfl) (fun _ _ _ h => h) (by rfl) ?_ (by assumption) ?_
      · intro w hSw
        obtain ⟨y0, y1⟩ := HS0.out w hSw
        go_simp
      simp only [Act.put, List.setIfInBounds_toArray, List.set_cons_zero, List.set_cons_succ]
      refine take_do (i := 5) (v := (.slice (some ⟨b, 0, none⟩) m k)) rfl (by kernel_rfl) (by kernel_rfl) (by kernel_rfl) (fun _ _ _ h => h) (by rfl) ?_ (by assumption) ?_
      · intro w hSw
        skip
        go_simp
      simp only [Act.put, List.setIfInBounds_toArray, List.set_cons_zero, List.set_cons_succ]
      refine take_do (i := 6) (v := (.int .i64 p)) rfl (by kernel_rfl) (by kernel_rfl) (by kernel_rfl) (fun _ _ _ h => h) (by rfl) ?_ (by assumption) ?_
      · intro w hSw
        skip
        go_simp
      simp only [Act.put, List.setIfInBounds_toArray, List.set_cons_zero, List.set_cons_succ]
      refine take_do (i := 7) (v := (.pointer (some ⟨b, p * 4, none⟩))) rfl (by kernel_rfl) (by kernel_rfl) (by kernel_rfl) (fun _ _ _ h => h) (by rfl) ?_ (by assumption) ?_
      · intro w hSw
        skip
        go_simp
      simp only [Act.put, List.setIfInBounds_toArray, List.set_cons_zero, List.set_cons_succ]
      refine take_do (i := 8) (v := (.pointer (some ⟨b, p * 4, none⟩))) rfl (by kernel_rfl) (by kernel_rfl) (by kernel_rfl) (fun _ _ _ h => h) (by rfl) ?_ (by assumption) ?_
      · intro w hSw
        skip
        go_simp
      simp only [Act.put, List.setIfInBounds_toArray, List.set_cons_zero, List.set_cons_succ]
      refine take_do (i := 9) (v := (.int .i64 (bs p).dy)) rfl (by kernel_rfl) (by kernel_rfl) (by kernel_rfl) (fun _ _ _ h => h) (by rfl) ?_ (by assumption) ?_
      · intro w hSw
        obtain ⟨y0, y1⟩ := HS0.out w hSw
        go_simp
      simp only [Act.put, List.setIfInBounds_toArray, List.set_cons_zero, List.set_cons_succ]
      refine take_do (i := 10) (v := (.int .i64 (s p + (bs p).dy))) rfl (by kernel_rfl) (by kernel_rfl) (by kernel_rfl) (fun _ _ _ h => h) (by rfl) ?_ (by assumption) ?_
      · intro w hSw
        have hwr : IntKind.i64.wrap (s p + (bs p).dy) = s p + (bs p).dy := jwrap (by omega) (by omega)
        go_simp
      simp only [Act.put, List.setIfInBounds_toArray, List.set_cons_zero, List.set_cons_succ]
      refine take_call (i := 11) rfl (by kernel_rfl) (fun K2 hK => ?_)
      go_simp
      refine (jmax_any _ _ _).mono ?_
      rintro e w1 ⟨rfl, hw1⟩
      subst w1
      rw [← HRS.out]
      go_wp2_with fail
      refine hK.out _ _ hHeld (fun hHeld2 => ?_)
      clear hK hHeld
      have hHeld := hHeld2
      clear hHeld2
      refine take_do (i := 12) (v := (.int .i64 (RT (t + 1)))) rfl (by kernel_rfl) (by kernel_rfl) (by kernel_rfl) (fun _ _ _ h => h) (by rfl) ?_ (by assumption) ?_
      · intro w hSw
        skip
        go_simp
      simp only [Act.put, List.setIfInBounds_toArray, List.set_cons_zero, List.set_cons_succ]
      refine wpAnyH_done (by kernel_rfl) ?_ _
      have HB1 : Hid (Below w.heap.size w wr.drew) := hB.out.drew
      clear hHeld HS0
      go_wp2_with fail
      go_roundw
      case rel => exact ⟨t + 1, by omega, by go_num, rfl, HB1⟩
      case measure => simp [intOf]; omega
    · obtain rfl : t = an := by omega
      go_wp2_with fail
      go_ret
      exact ⟨by rw [HQ.out]; rfl, hB.out⟩
abbrev woR (c : Option Addr) (n ck : Nat) (ed cd : Int) : List Value := [.slice c n ck, .int .i64 ed, .int .i64 cd]
set_option maxRecDepth 100000 in
set_option maxHeartbeats 4000000 in
theorem stold_any (a : Option Addr) (m k : Nat) (bs : Nat → Je) (c : Option Addr) (ck : Nat) (s : Nat → Int) (w : World) (h : JbsAt a m bs w) (hc : IsAt c m s w) (hm : m ≤ 1048576) (hb : Jb.Bnd m bs s 1000000) :
    Calls Tryd.prog 16 #[.slice a m k, .slice c m ck] w fun e w' => e = .returned (.agg #[.slice c m ck, .int .i64 (Jb.endTo bs s m), .int .i64 0]) ∧ Below w.heap.size w w' := by
  obtain ⟨RT, hRT⟩ : ∃ RT, RT = Jb.endTo bs s := ⟨_, rfl⟩
  rw [← hRT]
  have R0 : Hid (RT 0 = 0) := by show _ = _; rw [hRT]; rfl
  have RS : Hid (∀ t, RT (t + 1) = max (RT t) (s t + (bs t).dy)) := fun t => by rw [hRT]; rfl
  have RB : Hid (∀ t, t ≤ m → 0 ≤ RT t ∧ RT t ≤ 1000000) := fun t ht => by rw [hRT]; exact ⟨Jb.endTo_nn _ _ _, Jb.endTo_le (by omega) hb t ht⟩
  obtain ⟨W, hW⟩ : ∃ W, W = (w.alloc (.cells #[.slice none 0 0, .int .i64 0, .int .i64 0] 26)).alloc (.cells #[.slice c m ck, .int .i64 0, .int .i64 0] 26) := ⟨_, rfl⟩
  have HB : Hid (Below w.heap.size w W) := by show Below _ _ _; rw [hW]; exact (nbel_alloc _ _).alloc (by simp) _
  have HO : Hid (W.rowIs w.heap.size 26 3 (rowN [.slice none 0 0, .int .i64 0, .int .i64 0])) := by show W.rowIs _ _ _ _; rw [hW]; exact nrow_below (rowN_alloc _ _ _) (nbel_alloc _ _)
  have HP : Hid (W.rowIs (w.heap.size + 1) 26 3 (rowN (woR c m ck 0 0))) := by show W.rowIs _ _ _ _; rw [hW]; exact rowN_alloc' (by simp) _ _
  have H := Lib.hid h
  have HC := Lib.hid hc
  have HBN := Lib.hid hb
  have HW := Lib.hid hW
  clear h hc hb hRT hW
  go_enter Tryd.func16, Tryd.ntmps16
  go_wp2_with fail
  rw [← HW.out]
  clear HW
  go_loopw [6] (fun iv wr => ∃ (t : Nat), t ≤ m ∧ iv = .int .i64 t ∧ Hid (wr.rowIs w.heap.size 26 3 (rowN [.slice none 0 0, .int .i64 0, .int .i64 0])) ∧ Hid (wr.rowIs (w.heap.size + 1) 26 3 (rowN (woR c m ck (RT t) 0))) ∧ Hid (Below w.heap.size w wr)) (fun iv _ => m - (intOf iv).toNat)
  case atStart => exact ⟨0, Nat.zero_le _, rfl, HO, by rw [R0.out]; exact HP, HB⟩
  case round =>
    obtain ⟨t, ht, rfl, hO, hP, hB⟩ := hrel
    clear HO HP HB
    by_cases hlt : t < m
    · have hltz : (t : Int) < (m : Int) := by omega
      obtain ⟨b, e1, ⟨d0, d1, d2, d3⟩, _⟩ := (H.out.below hB.out).at_ hlt
      subst e1
      obtain ⟨b2, e2, s0⟩ := (HC.out.below hB.out).at1 hlt
      subst e2
      have hbd := HBN.out t (by omega)
      have HRS := Lib.hid (RS.out t)
      obtain ⟨rb1, rb2⟩ := RB.out t (by omega)
      have bw : b < w.heap.size := by
        obtain ⟨b', e, ⟨q, _⟩, _⟩ := H.out.at_ hlt
        have e' : b = b' := by simpa using e
        subst e'
        exact World.block_lt_of_cell? _ _ q
      have b2w : b2 < w.heap.size := by
        obtain ⟨b', e, q⟩ := HC.out.at1 hlt
        have e' : b2 = b' := by simpa using e
        subst e'
        exact World.block_lt_of_cell? _ _ q
      obtain ⟨⟨o0, o1, o2⟩, z0, z1, z2⟩ := rowN3 hP.out
      have HP1 : Hid ((wr.drew.setCell ⟨w.heap.size + 1, 1, none⟩ (.int .i64 (RT (t + 1)))).rowIs (w.heap.size + 1) 26 3 (rowN (woR (some ⟨b2, 0, none⟩) m ck (RT (t + 1)) 0))) := rowN_put (hP.out.of_block rfl) 1 _ (by simp)
      have HO1 : Hid ((wr.drew.setCell ⟨w.heap.size + 1, 1, none⟩ (.int .i64 (RT (t + 1)))).rowIs w.heap.size 26 3 (rowN [.slice none 0 0, .int .i64 0, .int .i64 0])) := nrow_set (hO.out.of_block rfl) (p := ⟨w.heap.size + 1, 1, none⟩) (by show w.heap.size ≠ w.heap.size + 1; omega) _
      have HB1 : Hid (Below w.heap.size w (wr.drew.setCell ⟨w.heap.size + 1, 1, none⟩ (.int .i64 (RT (t + 1))))) := hB.out.drew.setCell (p := ⟨w.heap.size + 1, 1, none⟩) (by show w.heap.size ≤ w.heap.size + 1; omega) _
      have lz : w.heap.size + 1 < wr.heap.size := hP.out.lt
      go_wp2_with fail
      refine wp_region_held_drew (S := fun V => Below w.heap.size wr V) (by kernel_rfl) (Below.refl _ _).drew (fun hHeld => ?_)
      have HS0 : Hid (∀ V, Below w.heap.size wr V → V.cell? ⟨b2, t, none⟩ = some (.int .i64 (s t)) ∧ V.cell? ⟨b, t * 4, none⟩ = some (.int .i64 (bs t).dy)) := fun V hV => ⟨(hV.cell b2w).trans s0, (hV.cell bw).trans d0⟩
      have HO7 : Hid (wr.drew.cell? ⟨w.heap.size + 1, 1, none⟩ = some (.int .i64 (RT t)) ∧ wr.drew.frozen? ⟨w.heap.size + 1, 1, none⟩ = false) := ⟨o1, z1⟩
      have HWS : Hid (w.heap.size ≤ wr.heap.size) := hB.out.size
      clear o0 o1 o2 z0 z1 z2 s0 d0 d1 d2 d3 bw b2w hO hP hB
      obtain ⟨Z, hZ⟩ : ∃ Z, Z = wr.drew := ⟨_, rfl⟩
      rw [← hZ] at hHeld HP1 HO1 HB1 HO7 ⊢
      have lz2 : w.heap.size + 1 < Z.heap.size := by rw [hZ]; exact lz
      clear hZ lz
      refine take_do (i := 0) (v := (.pointer (some ⟨w.heap.size + 1, 1, none⟩))) rfl (by kernel_rfl) (by kernel_rfl) (by kernel_rfl) (fun _ _ _ h => h) (by rfl) ?_ (by assumption) ?_
      · intro w hSw
        skip
        go_simp
      simp only [Act.put, List.setIfInBounds_toArray, List.set_cons_zero, List.set_cons_succ]
      refine take_do (i := 2) (v := (.slice (some ⟨b2, 0, none⟩) m ck)) rfl (by kernel_rfl) (by kernel_rfl) (by kernel_rfl) (fun _ _ _ h => h) (by rfl) ?_ (by assumption) ?_
      · intro w hSw
        skip
        go_simp
      simp only [Act.put, List.setIfInBounds_toArray, List.set_cons_zero, List.set_cons_succ]
      refine take_do (i := 3) (v := (.int .i64 t)) rfl (by kernel_rfl) (by kernel_rfl) (by kernel_rfl) (fun _ _ _ h => h) (by rfl) ?_ (by assumption) ?_
      · intro w hSw
        skip
        go_simp
      simp only [Act.put, List.setIfInBounds_toArray, List.set_cons_zero, List.set_cons_succ]
      refine take_do (i := 4) (v := (.pointer (some ⟨b2, t, none⟩))) rfl (by kernel_rfl) (by kernel_rfl) (by kernel_rfl) (fun _ _ _ h => h) (by rfl) ?_ (by assumption) ?_
      · intro w hSw
        skip
        go_simp
      simp only [Act.put, List.setIfInBounds_toArray, List.set_cons_zero, List.set_cons_succ]
      refine take_do (i := 5) (v := (.int .i64 (s t))) rfl (by kernel_rfl) (by kernel_rfl) (by kernel_rfl) (fun _ _ _ h => h) (by rfl) ?_ (by assumption) ?_
      · intro w hSw
        obtain ⟨y0, y1⟩ := HS0.out w hSw
        go_simp
      simp only [Act.put, List.setIfInBounds_toArray, List.set_cons_zero, List.set_cons_succ]
      refine take_do (i := 6) (v := (.slice (some ⟨b, 0, none⟩) m k)) rfl (by kernel_rfl) (by kernel_rfl) (by kernel_rfl) (fun _ _ _ h => h) (by rfl) ?_ (by assumption) ?_
      · intro w hSw
        skip
        go_simp
      simp only [Act.put, List.setIfInBounds_toArray, List.set_cons_zero, List.set_cons_succ]
      refine take_do (i := 7) (v := (.int .i64 t)) rfl (by kernel_rfl) (by kernel_rfl) (by kernel_rfl) (fun _ _ _ h => h) (by rfl) ?_ (by assumption) ?_
      · intro w hSw
        skip
        go_simp
      simp only [Act.put, List.setIfInBounds_toArray, List.set_cons_zero, List.set_cons_succ]
      refine take_do (i := 8) (v := (.pointer (some ⟨b, t * 4, none⟩))) rfl (by kernel_rfl) (by kernel_rfl) (by kernel_rfl) (fun _ _ _ h => h) (by rfl) ?_ (by assumption) ?_
      · intro w hSw
        skip
        go_simp
      simp only [Act.put, List.setIfInBounds_toArray, List.set_cons_zero, List.set_cons_succ]
      refine take_do (i := 9) (v := (.pointer (some ⟨b, t * 4, none⟩))) rfl (by kernel_rfl) (by kernel_rfl) (by kernel_rfl) (fun _ _ _ h => h) (by rfl) ?_ (by assumption) ?_
      · intro w hSw
        skip
        go_simp
      simp only [Act.put, List.setIfInBounds_toArray, List.set_cons_zero, List.set_cons_succ]
      refine take_do (i := 10) (v := (.int .i64 (bs t).dy)) rfl (by kernel_rfl) (by kernel_rfl) (by kernel_rfl) (fun _ _ _ h => h) (by rfl) ?_ (by assumption) ?_
      · intro w hSw
        obtain ⟨y0, y1⟩ := HS0.out w hSw
        go_simp
      simp only [Act.put, List.setIfInBounds_toArray, List.set_cons_zero, List.set_cons_succ]
      refine take_do (i := 11) (v := (.int .i64 (s t + (bs t).dy))) rfl (by kernel_rfl) (by kernel_rfl) (by kernel_rfl) (fun _ _ _ h => h) (by rfl) ?_ (by assumption) ?_
      · intro w hSw
        have hwr : IntKind.i64.wrap (s t + (bs t).dy) = s t + (bs t).dy := jwrap (by omega) (by omega)
        go_simp
      simp only [Act.put, List.setIfInBounds_toArray, List.set_cons_zero, List.set_cons_succ]
      refine take_call (i := 1) rfl (by kernel_rfl) (fun K2 hK => ?_)
      have o1 := HO7.out.1
      go_simp
      refine hK.out _ _ hHeld (fun hHeld2 => ?_)
      clear hK hHeld
      have hHeld := hHeld2
      clear hHeld2 o1
      refine take_call (i := 12) rfl (by kernel_rfl) (fun K2 hK => ?_)
      go_simp
      refine (jmax_any _ _ _).mono ?_
      rintro e w1 ⟨rfl, hw1⟩
      subst w1
      rw [← HRS.out]
      go_wp2_with fail
      refine hK.out _ _ hHeld (fun hHeld2 => ?_)
      clear hK hHeld
      have hHeld := hHeld2
      clear hHeld2
      refine take_do (i := 13) (v := (.pointer (some ⟨w.heap.size + 1, 1, none⟩))) rfl (by kernel_rfl) (by kernel_rfl) (by kernel_rfl) (fun _ _ _ h => h) (by rfl) ?_ (by assumption) ?_
      · intro w hSw
        skip
        go_simp
      simp only [Act.put, List.setIfInBounds_toArray, List.set_cons_zero, List.set_cons_succ]
      refine take_call (i := 14) rfl (by kernel_rfl) (fun K2 hK => ?_)
      obtain ⟨o1, z1⟩ := HO7.out
      go_simp
      refine hK.out _ _ (hHeld.setCell (p := ⟨w.heap.size + 1, 1, none⟩) (by show w.heap.size ≤ w.heap.size + 1; omega) _) (fun hHeld2 => ?_)
      clear hK hHeld hHeld2 o1 z1
      refine wpAnyH_done (by kernel_rfl) ?_ _
      clear HO7 HS0 HRS
      go_wp2_with fail
      go_roundw
      case rel => exact ⟨t + 1, by omega, by go_num, HO1, HP1, HB1⟩
      case measure => simp [intOf]; omega
    · obtain rfl : t = m := by omega
      obtain ⟨⟨o0, o1, o2⟩, _⟩ := rowN3 hP.out
      obtain ⟨⟨q0, q1, q2⟩, y0, y1, y2⟩ := rowN3 hO.out
      have lo : w.heap.size < wr.heap.size := hO.out.lt
      obtain ⟨ed, hed⟩ : ∃ ed, ed = RT t := ⟨_, rfl⟩
      rw [← hed] at o1
      have HED := Lib.hid hed
      clear hed
      go_wp2_with fail
      have zr := rowN_put (rowN_put (rowN_put hO.out 0 (.slice c t ck) (by simp)) 1 (.int .i64 ed) (by simp)) 2 (.int .i64 0) (by simp)
      have zb := ((hB.out.setCell (p := ⟨w.heap.size, 0, none⟩) (Nat.le_refl _) (.slice c t ck)).setCell (p := ⟨w.heap.size, 1, none⟩) (Nat.le_refl _) (.int .i64 ed)).setCell (p := ⟨w.heap.size, 2, none⟩) (Nat.le_refl _) (.int .i64 0)
      generalize ((wr.setCell ⟨w.heap.size, 0, none⟩ (.slice c t ck)).setCell ⟨w.heap.size, 1, none⟩ (.int .i64 ed)).setCell ⟨w.heap.size, 2, none⟩ (.int .i64 0) = Z at zr zb ⊢
      obtain ⟨⟨c0, c1, c2⟩, _⟩ := rowN3 zr
      refine bodyPost_ret (v := .agg #[.slice c t ck, .int .i64 ed, .int .i64 0]) (by simp only [results, Tryd.results16]; simp [go_sem, c0, c1, c2]) rfl ⟨by rw [HED.out], zb⟩
/-- Numbers as cells. -/
def jVs (l : List Int) : List Value := l.map (Value.int .i64)
theorem jVs_app (l : List Int) (x : Int) : jVs (l ++ [x]) = jVs l ++ [.int .i64 x] := by simp [jVs]
theorem jVs_at {s : Nat → Int} {n j : Nat} (h : j < n) : (jVs (Jb.fl s n))[j]? = some (.int .i64 (s j)) := by unfold jVs; rw [List.getElem?_map, Jb.fl_at s h]; rfl
theorem jls_own {B n : Nat} {a : Option Addr} {k : Nat} {s : Nat → Int} {W : World} (h : W.ownsRow B 2 1 (.slice a n k) n (jVs (Jb.fl s n))) : LsOwn 2 1 B n a k s W := by
  rcases h.2 with h2 | ⟨g, cap, cur, e1, e2, e3, e4, e5, e6, e7⟩
  · have h3 := h2.1
    injection h3 with h3 h4 h5
    exact Or.inl ⟨h3, h2.2, h5⟩
  · injection e1 with e1 _ e1b
    subst e1 e1b
    refine Or.inr ⟨g, rfl, e2, k, fun i => cur[i]?.getD undef, by omega, ⟨cur, e3, by simpa using e6, fun i hi => ?_⟩, fun j hj => ?_⟩
    · show cur[i]? = some (cur[i]?.getD undef)
      rw [Array.getElem?_eq_getElem (by omega)]
      rfl
    · have h1 : (cur.toList.take (n * 1))[j]? = (jVs (Jb.fl s n))[j]? := by rw [e7]
      rw [List.getElem?_take, if_pos (by omega), Array.getElem?_toList] at h1
      show cur[j]?.getD undef = _
      rw [h1, jVs_at (by omega)]
      rfl
theorem jown1 {g a b k : Nat} (h : (Value.slice (some ⟨g, 0, none⟩) a b).ownBlock = some k) : k = g := by cases h; rfl
theorem sown_shape {B n size : Nat} {e : TypeId} {v : Value} {xs : List Value} {W : World} (h : W.ownsRow B e size v n xs) : ∃ a c, v = .slice a n c := by
  rcases h.2 with h2 | ⟨g, cap, cur, e1, _⟩
  · exact ⟨none, 0, by rw [h2.1, h2.2]⟩
  · exact ⟨_, _, e1⟩
theorem sown_below {B n size : Nat} {e : TypeId} {v : Value} {xs : List Value} {W W' : World} (h : W.ownsRow B e size v n xs) (hb : Below W.heap.size W W') : W'.ownsRow B e size v n xs := ⟨h.1, h.2.imp id (fun ⟨g, cap, cur, e1, e2, e3, r⟩ => ⟨g, cap, cur, e1, e2, (hb.block g (h.lt g (by rw [e1]; rfl)).2).trans e3, r⟩)⟩
/-- What both sides tell of the soonest starts. -/
noncomputable def Jb.scode (m : Nat) (bs : Nat → Je) : Int := if 400 < m then 2 else if dB (JRight m bs) = true then 0 else 1
set_option maxRecDepth 100000 in
set_option maxHeartbeats 4000000 in
theorem specLeastW_no (a : Option Addr) (m k : Nat) (bs : Nat → Je) (w : World) (h : JbsAt a m bs w) (hs : JSm m bs) (hr : ¬ JRight m bs) :
    Calls Tryd.prog 5 #[.slice a m k] w fun e w' => e = .returned (.agg #[.slice none 0 0, .int .i64 0, .int .i64 (Jb.scode m bs)]) ∧ Below w.heap.size w w' := by
  have H := Lib.hid h
  have HS := Lib.hid hs
  by_cases c1 : 400 < m
  · have hz : (400 : Int) < (m : Int) := by omega
    have HC : Hid (Jb.scode m bs = 2) := by show _ = _; unfold Jb.scode; rw [if_pos c1]
    rw [HC.out]
    clear h hs hr c1
    go_enter Tryd.func5, Tryd.ntmps5
    go_wp2_with fail
    exact bodyPost_ret (v := .agg #[.slice none 0 0, .int .i64 0, .int .i64 2]) (by simp only [results, Tryd.results5]; simp [go_sem]) rfl ⟨rfl, by first | exact nbel_alloc _ _ | exact (((nbel_alloc _ _).setCell (p := ⟨w.heap.size, 0, none⟩) (Nat.le_refl _) _).setCell (p := ⟨w.heap.size, 1, none⟩) (Nat.le_refl _) _).setCell (p := ⟨w.heap.size, 2, none⟩) (Nat.le_refl _) _⟩
  · have hz : ¬ (400 : Int) < (m : Int) := by omega
    have HC : Hid (Jb.scode m bs = 1) := by show _ = _; unfold Jb.scode; rw [if_neg c1, dB_ff hr]; rfl
    have HN := Lib.hid (dB_ff hr)
    rw [HC.out]
    obtain ⟨W, hW⟩ : ∃ W, W = w.alloc (.cells #[.slice none 0 0, .int .i64 0, .int .i64 0] 26) := ⟨_, rfl⟩
    have HB : Hid (Below w.heap.size w W) := by show Below _ _ _; rw [hW]; exact nbel_alloc _ _
    have HO : Hid (W.rowIs w.heap.size 26 3 (rowN [.slice none 0 0, .int .i64 0, .int .i64 0])) := by show W.rowIs _ _ _ _; rw [hW]; exact rowN_alloc _ _ _
    have HW := Lib.hid hW
    clear h hs hr c1 hW
    go_enter Tryd.func5, Tryd.ntmps5
    go_wp2_with fail
    rw [← HW.out]
    refine (specJobs_any a m k bs _ (H.out.below HB.out) HS.out).mono ?_
    rintro e w1 ⟨rfl, hb⟩
    rw [HN.out]
    replace HO := Lib.hid (nrow_below HO.out hb)
    replace HB : Hid (Below w.heap.size w w1) := HB.out.trans (hb.mono HB.out.size)
    clear hb HW
    obtain ⟨⟨o0, o1, o2⟩, z0, z1, z2⟩ := rowN3 HO.out
    have lo : w.heap.size < w1.heap.size := HO.out.lt
    go_wp2_with fail
    have zr := rowN_put (rowN_put (rowN_put HO.out 0 (.slice none 0 0) (by simp)) 1 (.int .i64 0) (by simp)) 2 (.int .i64 1) (by simp)
    have zb := ((HB.out.setCell (p := ⟨w.heap.size, 0, none⟩) (Nat.le_refl _) (.slice none 0 0)).setCell (p := ⟨w.heap.size, 1, none⟩) (Nat.le_refl _) (.int .i64 0)).setCell (p := ⟨w.heap.size, 2, none⟩) (Nat.le_refl _) (.int .i64 1)
    generalize ((w1.setCell ⟨w.heap.size, 0, none⟩ (.slice none 0 0)).setCell ⟨w.heap.size, 1, none⟩ (.int .i64 0)).setCell ⟨w.heap.size, 2, none⟩ (.int .i64 1) = Z at zr zb ⊢
    obtain ⟨⟨c0, c1, c2⟩, _⟩ := rowN3 zr
    exact bodyPost_ret (v := .agg #[.slice none 0 0, .int .i64 0, .int .i64 1]) (by simp only [results, Tryd.results5]; simp [go_sem, c0, c1, c2]) rfl ⟨rfl, zb⟩
set_option maxRecDepth 100000 in
set_option maxHeartbeats 4000000 in
theorem specLeastW_yes (a : Option Addr) (m k : Nat) (bs : Nat → Je) (w : World) (h : JbsAt a m bs w) (hs : JSm m bs) (hr : JRight m bs) :
    Calls Tryd.prog 5 #[.slice a m k] w fun e w' => (∃ c ck, e = .returned (.agg #[.slice c m ck, .int .i64 (Jb.endTo bs (Jb.least bs) m), .int .i64 0]) ∧ LsOwn 2 1 w.heap.size m c ck (Jb.least bs) w') ∧ Below w.heap.size w w' := by
  obtain ⟨i1, hi1, hy0, hy1, hy2⟩ := info_parts ninfo_i64
  obtain ⟨s, hsd⟩ : ∃ s, s = Jb.least bs := ⟨_, rfl⟩
  have hm := hr.1
  have hz : ¬ (400 : Int) < (m : Int) := by omega
  have HBD : Hid (∀ i, i ≤ m → Jb.Bnd i bs s 1000000) := fun i hi => by
    rw [hsd]; intro j hj; have := Jb.least_bnd hr i hi j hj; omega
  have HEQ : Hid (∀ i, i < m → s i = Jb.rdy bs s (bs i)) := fun i hi => by rw [hsd]; exact Jb.least_eq hr hi
  have HRT : Hid (∀ i, i < m → Pl.Rising (bs i).an (bs i).A i) := fun i hi => (hr.2 i hi).a
  have HN := Lib.hid (dB_tt hr)
  have H := Lib.hid h
  have HS := Lib.hid hs
  rw [← hsd]
  obtain ⟨W, hW⟩ : ∃ W, W = w.alloc (.cells #[.slice none 0 0, .int .i64 0, .int .i64 0] 26) := ⟨_, rfl⟩
  have HB : Hid (Below w.heap.size w W) := by show Below _ _ _; rw [hW]; exact nbel_alloc _ _
  have HO : Hid (W.rowIs w.heap.size 26 3 (rowN [.slice none 0 0, .int .i64 0, .int .i64 0])) := by show W.rowIs _ _ _ _; rw [hW]; exact rowN_alloc _ _ _
  have HW := Lib.hid hW
  clear h hs hr hsd hW
  go_enter Tryd.func5, Tryd.ntmps5
  go_wp2_with fail
  rw [← HW.out]
  refine (specJobs_any a m k bs _ (H.out.below HB.out) HS.out).mono ?_
  rintro e w1 ⟨rfl, hb⟩
  rw [HN.out]
  replace HO := Lib.hid (nrow_below HO.out hb)
  replace HB : Hid (Below w.heap.size w w1) := HB.out.trans (hb.mono HB.out.size)
  have HL1 : Hid (w.heap.size < w1.heap.size) := HO.out.lt
  clear hb HW HN
  have O0 : Hid ((w1.alloc (.cells #[] 2)).ownsRow (w.heap.size + 1) 2 1 (.slice (some ⟨w1.heap.size, 0, none⟩) 0 0) 0 (jVs (Jb.fl s 0))) := World.ownsRow_made (e := 2) (size := 1) (base := w.heap.size + 1) w1 #[] 0 (by have := HL1.out; omega) (Nat.zero_le _) rfl
  have HB1 : Hid (Below w.heap.size w (w1.alloc (.cells #[] 2))) := HB.out.alloc HB.out.size _
  have HO1 : Hid ((w1.alloc (.cells #[] 2)).rowIs w.heap.size 26 3 (rowN [.slice none 0 0, .int .i64 0, .int .i64 0])) := nrow_below HO.out (nbel_alloc _ _)
  clear HO HB
  go_wp2_with fail
  go_loopw [3, 4] (fun ov iv wr => ∃ (i : Nat), i ≤ m ∧ iv = .int .i64 i ∧ Hid (wr.ownsRow (w.heap.size + 1) 2 1 ov i (jVs (Jb.fl s i))) ∧ Hid (wr.rowIs w.heap.size 26 3 (rowN [.slice none 0 0, .int .i64 0, .int .i64 0])) ∧ Hid (Below w.heap.size w wr)) (fun _ iv _ => m - (intOf iv).toNat)
  case atStart => exact ⟨0, Nat.zero_le _, rfl, O0, HO1, HB1⟩
  case round =>
    obtain ⟨i, hi, rfl, hO, hR, hB⟩ := hrel
    obtain ⟨av, cv, rfl⟩ := sown_shape hO.out
    clear O0 HO1 HB1
    by_cases hlt : i < m
    · have hltz : (i : Int) < (m : Int) := by omega
      have HSI := Lib.hid (HEQ.out i hlt)
      go_wp2_with fail
      refine (sready_any a m k bs av i cv s i _ (H.out.below hB.out) (by simpa using (jls_own hO.out).at_) hlt (Nat.le_refl _) (HRT.out i hlt) (by omega) (HS.out i hlt).1 (HBD.out i hi)).mono ?_
      rintro e w2 ⟨rfl, hb⟩
      rw [← HSI.out]
      replace hO := Lib.hid (sown_below hO.out hb)
      replace hR := Lib.hid (nrow_below hR.out hb)
      replace hB : Hid (Below w.heap.size w w2) := hB.out.trans (hb.mono hB.out.size)
      have hl2 : w.heap.size < w2.heap.size := hR.out.lt
      clear hb HSI
      go_wp2_with (at_builtin; refine wpList_append_lies _ rfl _ _ 24 rfl (w.heap.size + 1) 2 i1 (.int .i64 0) 1 8 Tryd.underlying24 hi1 hy0 hy1 hy2 rfl (by decide) _ _ _ rfl (hO.out.alloc _) ⟨w2.heap.size, 0, none⟩ 1 1 [.int .i64 (s i)] rfl rfl ?a1 ?a2 ?a3 ?a4 ?a5 ?a6 (w2.heap.size + 1) ?a7 ?_)
      try (case a1 => (intro j u hj; match j, hj with
        | 0, hj => (simp at hj; subst hj; simp [Addr.add])))
      try (case a2 => first | rfl | (intro u hu; simp at hu; subst hu; rfl))
      try (case a3 => omega)
      try (case a4 => (unfold maxLen; omega))
      try (case a5 => omega)
      try (case a6 => first | omega | (simp; omega))
      try (case a7 => simp)
      intro g cap W3 hown hgrow hat hlt3
      have HO3 : Hid (W3.ownsRow (w.heap.size + 1) 2 1 (.slice (some ⟨g, 0, none⟩) (i + 1) cap) (i + 1) (jVs (Jb.fl s (i + 1)))) := Lib.hid (by
        rw [Jb.fl_succ, jVs_app]; simpa using hown)
      have BW : W3.heap[w.heap.size]? = w2.heap[w.heap.size]? := (hgrow.block _ (by simp; omega) (fun e => by have := (hO.out.lt _ e.symm).1; omega)).trans (Below.heap_alloc _ _ _ (by omega))
      have HB3 : Hid (Below w.heap.size w W3) := (hB.out.alloc hB.out.size _).grown hgrow (by simp; omega) (fun k hk => by have := (hO.out.lt k hk).1; omega)
      have HR3 : Hid (W3.rowIs w.heap.size 26 3 (rowN [.slice none 0 0, .int .i64 0, .int .i64 0])) := hR.out.of_block BW
      clear hown hgrow hat hlt3 hO hB hR BW
      go_wp2_with fail
      go_roundw
      case rel => exact ⟨i + 1, by omega, by go_num, HO3, HR3, HB3⟩
      case measure => simp [intOf]; omega
    · obtain rfl : i = m := by omega
      go_wp2_with fail
      refine (stold_any a i k bs av cv s _ (H.out.below hB.out) (by simpa using (jls_own hO.out).at_) (by omega) (HBD.out i (Nat.le_refl _))).mono ?_
      rintro e w2 ⟨rfl, hb⟩
      have HLS : Hid (LsOwn 2 1 (w.heap.size + 1) i av cv s w2) := (jls_own hO.out).below hb
      replace hR := Lib.hid (nrow_below hR.out hb)
      replace hB : Hid (Below w.heap.size w w2) := hB.out.trans (hb.mono hB.out.size)
      clear hb hO
      obtain ⟨⟨o0, o1, o2⟩, z0, z1, z2⟩ := rowN3 hR.out
      have lo : w.heap.size < w2.heap.size := hR.out.lt
      obtain ⟨ed, hed⟩ : ∃ ed, ed = Jb.endTo bs s i := ⟨_, rfl⟩
      rw [← hed]
      have HED := Lib.hid hed
      clear hed
      go_wp2_with fail
      have zr := rowN_put (rowN_put (rowN_put hR.out 0 (.slice av i cv) (by simp)) 1 (.int .i64 ed) (by simp)) 2 (.int .i64 0) (by simp)
      have zb := ((hB.out.setCell (p := ⟨w.heap.size, 0, none⟩) (Nat.le_refl _) (.slice av i cv)).setCell (p := ⟨w.heap.size, 1, none⟩) (Nat.le_refl _) (.int .i64 ed)).setCell (p := ⟨w.heap.size, 2, none⟩) (Nat.le_refl _) (.int .i64 0)
      have zk : LsOwn 2 1 (w.heap.size + 1) i av cv s (((w2.setCell ⟨w.heap.size, 0, none⟩ (.slice av i cv)).setCell ⟨w.heap.size, 1, none⟩ (.int .i64 ed)).setCell ⟨w.heap.size, 2, none⟩ (.int .i64 0)) := HLS.out.same (fun g hg _ => by
        rw [Below.heap_setCell _ _ _ _ (by show g ≠ w.heap.size; omega), Below.heap_setCell _ _ _ _ (by show g ≠ w.heap.size; omega), Below.heap_setCell _ _ _ _ (by show g ≠ w.heap.size; omega)])
      generalize ((w2.setCell ⟨w.heap.size, 0, none⟩ (.slice av i cv)).setCell ⟨w.heap.size, 1, none⟩ (.int .i64 ed)).setCell ⟨w.heap.size, 2, none⟩ (.int .i64 0) = Z at zr zb zk ⊢
      obtain ⟨⟨c0, c1, c2⟩, _⟩ := rowN3 zr
      exact bodyPost_ret (v := .agg #[.slice av i cv, .int .i64 ed, .int .i64 0]) (by simp only [results, Tryd.results5]; simp [go_sem, c0, c1, c2]) rfl ⟨⟨av, cv, by rw [HED.out], zk.low (by omega)⟩, zb⟩
end Go.Proofs.YtganlipebndeoaaDoor
