/-
  The model's WorkLeast.
-/
import Derived.Test.YtganlipebndeoaaJbSh
import Derived.Test.YtganlipebndeoaaReg
import Derived.Deep.AppendLies
namespace Go.Proofs.Ytganlipebndeoaa
open Go.RowKit Go.Deep

theorem jwrap {x : Int} (h1 : -9223372036854775808 ≤ x) (h2 : x ≤ 9223372036854775807) : IntKind.i64.wrap x = x := by simp [IntKind.wrap, IntKind.bits, IntKind.signed]; omega
theorem jmax_any (a b : Int) (w : World) :
    Calls Try.prog 39 #[.int .i64 a, .int .i64 b] w fun e w' => e = .returned (.int .i64 (max a b)) ∧ w' = w := by
  rcases jmax_cases a b with ⟨q1, q2⟩ | ⟨q1, q2⟩
  · rw [q2]
    clear q2
    by_cases e : a = b
    · subst e
      go_enter Try.func39, Try.ntmps39
      go_wp2_with fail
      go_ret
      exact ⟨rfl, rfl⟩
    · have q3 : b < a := by omega
      clear e q1
      go_enter Try.func39, Try.ntmps39
      go_wp2_with fail
      go_ret
      exact ⟨rfl, rfl⟩
  · rw [q2]
    have q3 : ¬ b < a := by omega
    clear q2 q1
    go_enter Try.func39, Try.ntmps39
    go_wp2_with fail
    go_ret
    exact ⟨rfl, rfl⟩
/-- The jobs and the starts, as the model reads them. -/
structure JS (B : Nat) (a : Option Addr) (m : Nat) (bs : Nat → Je) (c : Option Addr) (n : Nat) (s : Nat → Int) (w W : World) : Prop where
  j : JbsAt a m bs W
  s : IsAt c n s W
  old : Below B w W
theorem JS.below {B : Nat} {a : Option Addr} {m : Nat} {bs : Nat → Je} {c : Option Addr} {n : Nat} {s : Nat → Int} {w W W' : World} (h : JS B a m bs c n s w W) (hb : Below W.heap.size W W') (hB : B ≤ W.heap.size) : JS B a m bs c n s w W' := ⟨h.j.below hb, h.s.below hb, h.old.trans (hb.mono hB)⟩
set_option maxRecDepth 100000 in
set_option maxHeartbeats 4000000 in
theorem sready_any (a : Option Addr) (m k : Nat) (bs : Nat → Je) (c : Option Addr) (n ck : Nat) (s : Nat → Int) (i : Nat) (w : World) (h : JbsAt a m bs w) (hc : IsAt c n s w) (hi : i < m) (hin : i ≤ n) (hr : Pl.Rising (bs i).an (bs i).A i) (hm : m ≤ 1048576) (ha : (bs i).an ≤ 1048576) (hb : Jb.Bnd i bs s 1000000) :
    Calls Try.prog 28 #[.slice a m k, .slice c n ck, .int .i64 i] w fun e w' => e = .returned (.int .i64 (Jb.rdy bs s (bs i))) ∧ Below w.heap.size w w' := by
  have hiz : (i : Int) < (m : Int) := by omega
  obtain ⟨q, hq⟩ : ∃ q, q = Jb.rdy bs s (bs i) := ⟨_, rfl⟩
  rw [← hq]
  have HQ : Hid (Jb.rdyTo bs s (bs i) (bs i).an = q) := by show _ = _; rw [hq]; rfl
  obtain ⟨RT, hRT⟩ : ∃ RT, RT = Jb.rdyTo bs s (bs i) := ⟨_, rfl⟩
  rw [← hRT] at HQ
  have R0 : Hid (RT 0 = 0) := by show _ = _; rw [hRT]; rfl
  have RS : Hid (∀ t, RT (t + 1) = max (RT t) (s ((bs i).A t).toNat + (bs ((bs i).A t).toNat).dy)) := fun t => by rw [hRT]; rfl
  have RB : Hid (∀ t, t ≤ (bs i).an → 0 ≤ RT t ∧ RT t ≤ 1000000) := fun t ht => by rw [hRT]; exact ⟨Jb.rdyTo_nn _ _ _ _, Jb.rdyTo_le (by omega) hr hb t ht⟩
  obtain ⟨b, rfl, hcs⟩ := h.all (by omega)
  obtain ⟨⟨dy, cw, pa, an, ak, A, pr, rn, rk, R⟩, hx⟩ : ∃ x, x = bs i := ⟨_, rfl⟩
  rw [← hx] at hr ha RS RB HQ
  simp only at hr ha RS RB HQ
  have HCI : Hid (JeCells b (i * 4) ⟨dy, cw, pa, an, ak, A, pr, rn, rk, R⟩ w) := by rw [hx]; exact (hcs i hi).1
  have HXA : Hid (IsAt pa an A w) := by
    have := (hcs i hi).2.1
    rw [← hx] at this
    exact this
  have HCS : Hid (∀ j, j < m → JeCells b (j * 4) (bs j) w) := fun j hj => (hcs j hj).1
  have HC := Lib.hid hc
  have HR := Lib.hid hr
  have HBN := Lib.hid hb
  clear h hc hr hb hRT hq hcs hx
  go_enter Try.func28, Try.ntmps28
  go_wp2_with fail
  go_loopw [7, 8, 9] (fun dv iv _ wr => ∃ (t : Nat), t ≤ an ∧ iv = .int .i64 t ∧ dv = .int .i64 (RT t) ∧ Hid (Below w.heap.size w wr)) (fun _ iv _ _ => an - (intOf iv).toNat)
  case atStart => exact ⟨0, Nat.zero_le _, rfl, by rw [R0.out], Below.refl _ _⟩
  case round =>
    obtain ⟨t, ht, rfl, rfl, hB⟩ := hrel
    obtain ⟨i0, i1, i2, i3⟩ := HCI.out.block (hB.out.block _ HCI.out.lt)
    simp only at i0 i1 i2 i3
    by_cases hlt : t < an
    · have hltz : (t : Int) < (an : Int) := by omega
      obtain ⟨b3, e3, c0⟩ := (HXA.out.below hB.out).at1 hlt
      subst e3
      have h1 := (HR.out t hlt).1
      obtain ⟨p, hp⟩ : ∃ p, p = (A t).toNat := ⟨_, rfl⟩
      have hpA : A t = (p : Int) := by omega
      have hpm : p < m := by omega
      have hpn : p < n := by omega
      have hpz : (p : Int) < (m : Int) := by omega
      have hpnz : (p : Int) < (n : Int) := by omega
      rw [hpA] at c0
      obtain ⟨b2, e2, s0⟩ := (HC.out.below hB.out).at1 hpn
      subst e2
      have HJ := Lib.hid ((HCS.out p hpm).block (hB.out.block _ (HCS.out p hpm).lt))
      have hbd := HBN.out p (by omega)
      have HRS : Hid (RT (t + 1) = max (RT t) (s p + (bs p).dy)) := by show _ = _; rw [RS.out t, ← hp]
      obtain ⟨rb1, rb2⟩ := RB.out t (by omega)
      obtain ⟨d0, d1, d2, d3⟩ := HJ.out
      clear h1 hp hpA
      go_wp2_with fail
      refine wp_region_held_drew (S := fun V => Below wr.heap.size wr V) (by kernel_rfl) (Below.refl _ _).drew (fun hHeld => ?_)
      have HS0 : Hid (∀ V, Below wr.heap.size wr V → V.cell? ⟨b2, p, none⟩ = some (.int .i64 (s p)) ∧ V.cell? ⟨b, p * 4, none⟩ = some (.int .i64 (bs p).dy)) := fun V hV => ⟨(hV.cell (World.block_lt_of_cell? _ _ s0)).trans s0, (hV.cell (World.block_lt_of_cell? _ _ d0)).trans d0⟩
      clear i0 i1 i2 i3 c0 s0 d0 d1 d2 d3
      refine take_do (i := 0) (v := (.int .i64 (RT t))) rfl (by kernel_rfl) (by kernel_rfl) (by kernel_rfl) (fun _ _ _ h => h) (by rfl) ?_ (by assumption) ?_
      · intro w hSw
        skip
        go_simp
      simp only [Act.put, List.setIfInBounds_toArray, List.set_cons_zero, List.set_cons_succ]
      refine take_do (i := 1) (v := (.slice (some ⟨b2, 0, none⟩) n ck)) rfl (by kernel_rfl) (by kernel_rfl) (by kernel_rfl) (fun _ _ _ h => h) (by rfl) ?_ (by assumption) ?_
      · intro w hSw
        skip
        go_simp
      simp only [Act.put, List.setIfInBounds_toArray, List.set_cons_zero, List.set_cons_succ]
      refine take_do (i := 2) (v := (.int .i64 p)) rfl (by kernel_rfl) (by kernel_rfl) (by kernel_rfl) (fun _ _ _ h => h) (by rfl) ?_ (by assumption) ?_
      · intro w hSw
        skip
        go_simp
      simp only [Act.put, List.setIfInBounds_toArray, List.set_cons_zero, List.set_cons_succ]
      refine take_do (i := 3) (v := (.pointer (some ⟨b2, p, none⟩))) rfl (by kernel_rfl) (by kernel_rfl) (by kernel_rfl) (fun _ _ _ h => h) (by rfl) ?_ (by assumption) ?_
      · intro w hSw
        skip
        go_simp
      simp only [Act.put, List.setIfInBounds_toArray, List.set_cons_zero, List.set_cons_succ]
      refine take_do (i := 4) (v := (.int .i64 (s p))) rfl (by kernel_rfl) (by kernel_rfl) (by kernel_rfl) (fun _ _ _ h => h) (by rfl) ?_ (by assumption) ?_
      · intro w hSw
        obtain ⟨y0, y1⟩ := HS0.out w hSw
        go_simp
      simp only [Act.put, List.setIfInBounds_toArray, List.set_cons_zero, List.set_cons_succ]
      refine take_do (i := 5) (v := (.slice (some ⟨b, 0, none⟩) m k)) rfl (by kernel_rfl) (by kernel_rfl) (by kernel_rfl) (fun _ _ _ h => h) (by rfl) ?_ (by assumption) ?_
      · intro w hSw
        skip
        go_simp
      simp only [Act.put, List.setIfInBounds_toArray, List.set_cons_zero, List.set_cons_succ]
      refine take_do (i := 6) (v := (.int .i64 p)) rfl (by kernel_rfl) (by kernel_rfl) (by kernel_rfl) (fun _ _ _ h => h) (by rfl) ?_ (by assumption) ?_
      · intro w hSw
        skip
        go_simp
      simp only [Act.put, List.setIfInBounds_toArray, List.set_cons_zero, List.set_cons_succ]
      refine take_do (i := 7) (v := (.pointer (some ⟨b, p * 4, none⟩))) rfl (by kernel_rfl) (by kernel_rfl) (by kernel_rfl) (fun _ _ _ h => h) (by rfl) ?_ (by assumption) ?_
      · intro w hSw
        skip
        go_simp
      simp only [Act.put, List.setIfInBounds_toArray, List.set_cons_zero, List.set_cons_succ]
      refine take_do (i := 8) (v := (.pointer (some ⟨b, p * 4, none⟩))) rfl (by kernel_rfl) (by kernel_rfl) (by kernel_rfl) (fun _ _ _ h => h) (by rfl) ?_ (by assumption) ?_
      · intro w hSw
        skip
        go_simp
      simp only [Act.put, List.setIfInBounds_toArray, List.set_cons_zero, List.set_cons_succ]
      refine take_do (i := 9) (v := (.int .i64 (bs p).dy)) rfl (by kernel_rfl) (by kernel_rfl) (by kernel_rfl) (fun _ _ _ h => h) (by rfl) ?_ (by assumption) ?_
      · intro w hSw
        obtain ⟨y0, y1⟩ := HS0.out w hSw
        go_simp
      simp only [Act.put, List.setIfInBounds_toArray, List.set_cons_zero, List.set_cons_succ]
      refine take_do (i := 10) (v := (.int .i64 (s p + (bs p).dy))) rfl (by kernel_rfl) (by kernel_rfl) (by kernel_rfl) (fun _ _ _ h => h) (by rfl) ?_ (by assumption) ?_
      · intro w hSw
        have hwr : IntKind.i64.wrap (s p + (bs p).dy) = s p + (bs p).dy := jwrap (by omega) (by omega)
        go_simp
      simp only [Act.put, List.setIfInBounds_toArray, List.set_cons_zero, List.set_cons_succ]
      refine take_call (i := 11) rfl (by kernel_rfl) (fun K2 hK => ?_)
      go_simp
      refine (jmax_any _ _ _).mono ?_
      rintro e w1 ⟨rfl, hw1⟩
      subst w1
      rw [← HRS.out]
      go_wp2_with fail
      refine hK.out _ _ hHeld (fun hHeld2 => ?_)
      clear hK hHeld
      have hHeld := hHeld2
      clear hHeld2
      refine take_do (i := 12) (v := (.int .i64 (RT (t + 1)))) rfl (by kernel_rfl) (by kernel_rfl) (by kernel_rfl) (fun _ _ _ h => h) (by rfl) ?_ (by assumption) ?_
      · intro w hSw
        skip
        go_simp
      simp only [Act.put, List.setIfInBounds_toArray, List.set_cons_zero, List.set_cons_succ]
      refine wpAnyH_done (by kernel_rfl) ?_ _
      have HB1 : Hid (Below w.heap.size w wr.drew) := hB.out.drew
      clear hHeld HS0
      go_wp2_with fail
      go_roundw
      case rel => exact ⟨t + 1, by omega, by go_num, rfl, HB1⟩
      case measure => simp [intOf]; omega
    · obtain rfl : t = an := by omega
      go_wp2_with fail
      go_ret
      exact ⟨by rw [HQ.out]; rfl, hB.out⟩
/-- Numbers as cells. -/
def jVs (l : List Int) : List Value := l.map (Value.int .i64)
theorem jVs_app (l : List Int) (x : Int) : jVs (l ++ [x]) = jVs l ++ [.int .i64 x] := by simp [jVs]
theorem jVs_at {s : Nat → Int} {n j : Nat} (h : j < n) : (jVs (Jb.fl s n))[j]? = some (.int .i64 (s j)) := by unfold jVs; rw [List.getElem?_map, Jb.fl_at s h]; rfl
theorem jls_own {B n : Nat} {a : Option Addr} {k : Nat} {s : Nat → Int} {W : World} (h : W.ownsRow B 2 1 (.slice a n k) n (jVs (Jb.fl s n))) : LsOwn 2 1 B n a k s W := by
  rcases h.2 with h2 | ⟨g, cap, cur, e1, e2, e3, e4, e5, e6, e7⟩
  · have h3 := h2.1
    injection h3 with h3 h4 h5
    exact Or.inl ⟨h3, h2.2, h5⟩
  · injection e1 with e1 _ e1b
    subst e1 e1b
    refine Or.inr ⟨g, rfl, e2, k, fun i => cur[i]?.getD undef, by omega, ⟨cur, e3, by simpa using e6, fun i hi => ?_⟩, fun j hj => ?_⟩
    · show cur[i]? = some (cur[i]?.getD undef)
      rw [Array.getElem?_eq_getElem (by omega)]
      rfl
    · have h1 : (cur.toList.take (n * 1))[j]? = (jVs (Jb.fl s n))[j]? := by rw [e7]
      rw [List.getElem?_take, if_pos (by omega), Array.getElem?_toList] at h1
      show cur[j]?.getD undef = _
      rw [h1, jVs_at (by omega)]
      rfl
theorem jown1 {g a b k : Nat} (h : (Value.slice (some ⟨g, 0, none⟩) a b).ownBlock = some k) : k = g := by cases h; rfl
theorem sown_shape {B n size : Nat} {e : TypeId} {v : Value} {xs : List Value} {W : World} (h : W.ownsRow B e size v n xs) : ∃ a c, v = .slice a n c := by
  rcases h.2 with h2 | ⟨g, cap, cur, e1, _⟩
  · exact ⟨none, 0, by rw [h2.1, h2.2]⟩
  · exact ⟨_, _, e1⟩
theorem sown_below {B n size : Nat} {e : TypeId} {v : Value} {xs : List Value} {W W' : World} (h : W.ownsRow B e size v n xs) (hb : Below W.heap.size W W') : W'.ownsRow B e size v n xs := ⟨h.1, h.2.imp id (fun ⟨g, cap, cur, e1, e2, e3, r⟩ => ⟨g, cap, cur, e1, e2, (hb.block g (h.lt g (by rw [e1]; rfl)).2).trans e3, r⟩)⟩
end Go.Proofs.Ytganlipebndeoaa
