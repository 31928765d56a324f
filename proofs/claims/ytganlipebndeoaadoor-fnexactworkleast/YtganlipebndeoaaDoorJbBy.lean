/-
  The program's roster of the soonest starts.
-/
import Derived.Test.YtganlipebndeoaaDoorJbSh
import Derived.Test.YtganlipebndeoaaDoorReg
import Derived.Maps.AppendAt
import Derived.Lib.OwnKind
namespace Go.Proofs.YtganlipebndeoaaDoor
open Go.RowKit Go.Deep

/-- The cells of the first shifts. -/
def shL (bs : Nat → Je) (s : Nat → Int) : Nat → List Value
  | 0 => []
  | i + 1 => shL bs s i ++ [.int .i64 (bs i).dy, .int .i64 (bs i).cw, .slice (bs i).pa (bs i).an (bs i).ak, .slice (bs i).pr (bs i).rn (bs i).rk, .int .i64 (s i)]
theorem shL_len (bs : Nat → Je) (s : Nat → Int) (n : Nat) : (shL bs s n).length = n * 5 := by
  induction n with
  | zero => rfl
  | succ n ih => simp only [shL, List.length_append, ih]; simp; omega
theorem shL_at (bs : Nat → Je) (s : Nat → Int) {n i c : Nat} (h : i < n) (hc : c < 5) : (shL bs s n)[i * 5 + c]? = [Value.int .i64 (bs i).dy, .int .i64 (bs i).cw, .slice (bs i).pa (bs i).an (bs i).ak, .slice (bs i).pr (bs i).rn (bs i).rk, .int .i64 (s i)][c]? := by
  induction n with
  | zero => omega
  | succ n ih =>
    simp only [shL]
    by_cases e : i = n
    · subst e
      rw [List.getElem?_append_right (by rw [shL_len]; omega), shL_len]
      congr 1; omega
    · rw [List.getElem?_append_left (by rw [shL_len]; omega)]
      exact ih (by omega)
theorem shAt_of {B n : Nat} {a : Option Addr} {k : Nat} {bs : Nat → Je} {s : Nat → Int} {W : World} (ho : W.ownsRow B 68 5 (.slice a n k) n (shL bs s n)) : ShAt a n bs s W := by
  rcases ho.2 with ⟨_, e⟩ | ⟨g, cap, cur, e, h1, h2, h3⟩
  · exact Or.inl e
  · refine Or.inr ⟨g, by injection e, fun i hi => ?_⟩
    have e2 : a = some ⟨g, 0, none⟩ := by injection e
    subst e2
    have q := fun j hj => ho.cellAt (g := g) (cap := k) j hj
    have l := fun c (hc : c < 5) => shL_at bs s hi hc
    exact ⟨(q (i * 5) (by omega)).trans (l 0 (by omega)), (q (i * 5 + 1) (by omega)).trans (l 1 (by omega)), (q (i * 5 + 2) (by omega)).trans (l 2 (by omega)), (q (i * 5 + 3) (by omega)).trans (l 3 (by omega)), (q (i * 5 + 4) (by omega)).trans (l 4 (by omega))⟩
theorem jown_shape {B n size : Nat} {e : TypeId} {v : Value} {xs : List Value} {W : World} (h : W.ownsRow B e size v n xs) : ∃ a c, v = .slice a n c := by
  rcases h.2 with h2 | ⟨g, cap, cur, e1, _⟩
  · exact ⟨none, 0, by rw [h2.1, h2.2]⟩
  · exact ⟨_, _, e1⟩
theorem jown_block {B n size : Nat} {e : TypeId} {v : Value} {xs : List Value} {W W' : World} (h : W.ownsRow B e size v n xs) (hb : ∀ k, v.ownBlock = some k → W'.heap[k]? = W.heap[k]?) : W'.ownsRow B e size v n xs := ⟨h.1, h.2.imp id (fun ⟨g, cap, cur, e1, e2, e3, r⟩ => ⟨g, cap, cur, e1, e2, (hb g (by rw [e1]; rfl)).trans e3, r⟩)⟩
theorem jown_below {B n size : Nat} {e : TypeId} {v : Value} {xs : List Value} {W W' : World} (h : W.ownsRow B e size v n xs) (hb : Below W.heap.size W W') : W'.ownsRow B e size v n xs := jown_block h (fun k hk => hb.block k (h.lt k hk).2)
theorem jblk_ne {g k n m : Nat} {t t' : TypeId} {W : World} {xs : List Value} {v : Value} {B sz : Nat} {F : Nat → Value} (h1 : W.rowIs g t n F) (h2 : W.ownsRow B t' sz v m xs) (hk : v.ownBlock = some k) (hne : t ≠ t') : k ≠ g := by
  rintro rfl
  obtain ⟨c1, h1, _⟩ := h1
  rcases h2.2 with h | ⟨g, cap, cur, e, _, h3, _⟩
  · rw [h.1] at hk; cases hk
  · rw [e] at hk
    have : g = k := by simpa [Value.ownBlock] using hk
    subst this
    rw [h1] at h3
    injection h3 with h3
    injection h3 with _ h3
    exact hne h3
/-- An append inside a region: where the new list lies. -/
theorem jap_at {P : Program} {ops : Array Oper} {o : Oper} {a : Act} {w : World} {K : Act → World → Prop} {Q : Exit → Act → World → Prop} {E : Prop}
    (hg : o.guard = none) (s x : Operand) (t : TypeId) (hop : o.op = Op.call { callee := Callee.builtin Builtin.append, args := #[s, x], argTypes := #[t, t] }) (B : Nat)
    (e : TypeId) (i : TypeInfo) (z : Value) (size bytes : Nat) (h1 : P.underlying t = some (.slice e)) (h2 : P.info? e = some i) (h3 : i.zero = some z) (h4 : i.size = size) (h5 : i.bytes = bytes) (h6 : z.cells.size = size) (h7 : 0 < size)
    (v : Value) (n : Nat) (olds : List Value) (hs : a.eval s = v) (hown : w.ownsRow B e size v n olds)
    (ad : Addr) (m c : Nat) (news : List Value) (hx : a.eval x = .slice (some ad) m c) (hn : news.length = m * size) (hc : ∀ j u, news[j]? = some u → w.cell? (ad.add j) = some u) (h1c : ∀ u ∈ news, u.oneCell' = true)
    (b1 : n + m ≤ maxLen) (b2 : (n + m) * bytes ≤ 140737488355328) (hB : B ≤ w.heap.size)
    (hK : ∀ v' w', w'.ownsRow B e size v' (n + m) (olds ++ news) → w.grownBy w' v.ownBlock → (v'.ownBlock = v.ownBlock ∨ v'.ownBlock = some w.heap.size) → K (a.put o.dst v') w') :
    if Region.wanted o (yielded ops a.tmps) = true then Oper.wp P o a w K Q else E := by
  have hw : Region.wanted o (yielded ops a.tmps) = true := by simp [Region.wanted, hg]
  rw [if_pos hw]
  obtain ⟨v', w', hrun, r1, r2, _, r3⟩ := run_append_own_at (P := P) w B t o.type e i z size bytes h1 h2 h3 h4 h5 h6 h7 v n olds hown ad m c news hn hc h1c b1 b2 hB
  unfold Oper.wp
  simp [execOp, hop, resolve, invoke, builtin, hs, hx, hrun, Result.andThen]
  exact hK v' w' r1 r2 r3
theorem info_Sh : (Tryd.prog.info? 68).map (fun i => (i.zero, i.size, i.bytes)) = some (some (.agg #[.int .i64 0, .int .i64 0, .slice none 0 0, .slice none 0 0, .int .i64 0]), 5, 72) := by kernel_rfl
theorem rowN5 {w : World} {g : Nat} {t : TypeId} {a b c d e : Value} (h : w.rowIs g t 5 (rowN [a, b, c, d, e])) : (w.cell? ⟨g, 0, none⟩ = some a ∧ w.cell? ⟨g, 1, none⟩ = some b ∧ w.cell? ⟨g, 2, none⟩ = some c ∧ w.cell? ⟨g, 3, none⟩ = some d ∧ w.cell? ⟨g, 4, none⟩ = some e) ∧ (w.frozen? ⟨g, 0, none⟩ = false ∧ w.frozen? ⟨g, 1, none⟩ = false ∧ w.frozen? ⟨g, 2, none⟩ = false ∧ w.frozen? ⟨g, 3, none⟩ = false ∧ w.frozen? ⟨g, 4, none⟩ = false) :=
  ⟨⟨h.cell (by omega), h.cell (by omega), h.cell (by omega), h.cell (by omega), h.cell (by omega)⟩, h.frozen 0, h.frozen 1, h.frozen 2, h.frozen 3, h.frozen 4⟩
set_option maxRecDepth 100000 in
set_option maxHeartbeats 4000000 in
theorem leastBy_any (a : Option Addr) (m k : Nat) (bs : Nat → Je) (w : World) (h : JbsAt a m bs w) (hr : JRight m bs) (hs : JSm m bs) :
    Calls Tryd.prog 32 #[.slice a m k, .func (.func 33) #[] #[]] w fun e w' => (∃ a' k', e = .returned (.slice a' m k') ∧ ShAt a' m bs (Jb.least bs) w') ∧ Below w.heap.size w w' := by
  obtain ⟨i0, hi0, hz0, hz1, hz2⟩ := info_parts info_Sh
  obtain ⟨s, hsd⟩ : ∃ s, s = Jb.least bs := ⟨_, rfl⟩
  have hm := hr.1
  have HBD : Hid (∀ i, i ≤ m → Jb.Bnd i bs s 1000000) := fun i hi => by
    rw [hsd]; intro j hj; have := Jb.least_bnd hr i hi j hj; omega
  have HEQ : Hid (∀ i, i < m → s i = Jb.rdy bs s (bs i)) := fun i hi => by rw [hsd]; exact Jb.least_eq hr hi
  have HRT : Hid (∀ i, i < m → Pl.Rising (bs i).an (bs i).A i) := fun i hi => (hr.2 i hi).a
  have H := Lib.hid h
  have HS := Lib.hid hs
  rw [← hsd]
  clear h hr hs hsd
  go_enter Tryd.func32, Tryd.ntmps32
  go_wp2_with fail
  go_loopw [5, 7, 10] (fun ov _ iv wr => ∃ (i : Nat), i ≤ m ∧ iv = .int .i64 i ∧ Hid (wr.ownsRow w.heap.size 68 5 ov i (shL bs s i)) ∧ Hid (Below w.heap.size w wr)) (fun _ _ iv _ => m - (intOf iv).toNat)
  case atStart => exact ⟨0, Nat.zero_le _, rfl, World.ownsRow_nil _ _ _ _, Below.refl _ _⟩
  case round =>
    obtain ⟨i, hi, rfl, hO, hB⟩ := hrel
    obtain ⟨av, cv, rfl⟩ := jown_shape hO.out
    by_cases hlt : i < m
    · have hltz : (i : Int) < (m : Int) := by omega
      obtain ⟨b, rfl, ⟨c0, c1, c2, c3⟩, hL⟩ := (H.out.below hB.out).at_ hlt
      have HL := Lib.hid hL
      obtain ⟨W0, hW0⟩ : ∃ W0, W0 = wr.alloc (.cells #[.int .i64 (bs i).dy, .int .i64 (bs i).cw, .slice (bs i).pa (bs i).an (bs i).ak, .slice (bs i).pr (bs i).rn (bs i).rk] 41) := ⟨_, rfl⟩
      have hbw : Below wr.heap.size wr W0 := by rw [hW0]; exact nbel_alloc _ _
      have HR0 : Hid (W0.rowIs wr.heap.size 41 4 (rowN [.int .i64 (bs i).dy, .int .i64 (bs i).cw, .slice (bs i).pa (bs i).an (bs i).ak, .slice (bs i).pr (bs i).rn (bs i).rk])) := by show W0.rowIs _ _ _ _; rw [hW0]; exact rowN_alloc wr _ _
      have HB0 : Hid (Below w.heap.size w W0.drew) := (hB.out.trans (hbw.mono hB.out.size)).drew
      have HO0 : Hid (W0.drew.ownsRow w.heap.size 68 5 (.slice av i cv) i (shL bs s i)) := jown_below hO.out hbw.drew
      have HL0 : Hid (JeL (bs i) W0.drew) := hL.below hbw.drew
      have HW0 := Lib.hid hW0
      have HSI := Lib.hid (HEQ.out i hlt)
      clear hL hbw hW0 hO hB HL
      go_wp2_with fail
      rw [← HW0.out]
      clear HW0 c0 c1 c2 c3
      refine wp_region_held_drew (S := (fun V => V.rowIs wr.heap.size 41 4 (rowN [.int .i64 (bs i).dy, .int .i64 (bs i).cw, .slice (bs i).pa (bs i).an (bs i).ak, .slice (bs i).pr (bs i).rn (bs i).rk]))) (by kernel_rfl) (HR0.out.of_block rfl) (fun hHeld => ?_)
      clear HR0
      obtain ⟨Z, hZ⟩ : ∃ Z, Z = W0.drew := ⟨_, rfl⟩
      rw [← hZ] at HB0 HO0 HL0 hHeld ⊢
      clear hZ
      refine take_do (i := 0) (v := (.slice av i cv)) rfl (by kernel_rfl) (by kernel_rfl) (by kernel_rfl) (fun _ _ _ h => h) (by rfl) ?_ (by assumption) ?_
      · intro w hSw
        skip
        go_simp
      simp only [Act.put, List.setIfInBounds_toArray, List.set_cons_zero, List.set_cons_succ]
      refine take_do (i := 1) (v := (jbV (bs i))) rfl (by kernel_rfl) (by kernel_rfl) (by kernel_rfl) (fun _ _ _ h => h) (by rfl) ?_ (by assumption) ?_
      · intro w hSw
        obtain ⟨⟨x0, x1, x2, x3⟩, _⟩ := rowN4 hSw
        go_simp
      simp only [Act.put, List.setIfInBounds_toArray, List.set_cons_zero, List.set_cons_succ]
      refine take_do (i := 2) (v := (.func (.func 33) #[] #[])) rfl (by kernel_rfl) (by kernel_rfl) (by kernel_rfl) (fun _ _ _ h => h) (by rfl) ?_ (by assumption) ?_
      · intro w hSw
        skip
        go_simp
      simp only [Act.put, List.setIfInBounds_toArray, List.set_cons_zero, List.set_cons_succ]
      refine take_do (i := 3) (v := (.slice av i cv)) rfl (by kernel_rfl) (by kernel_rfl) (by kernel_rfl) (fun _ _ _ h => h) (by rfl) ?_ (by assumption) ?_
      · intro w hSw
        skip
        go_simp
      simp only [Act.put, List.setIfInBounds_toArray, List.set_cons_zero, List.set_cons_succ]
      refine take_do (i := 4) (v := (jbV (bs i))) rfl (by kernel_rfl) (by kernel_rfl) (by kernel_rfl) (fun _ _ _ h => h) (by rfl) ?_ (by assumption) ?_
      · intro w hSw
        obtain ⟨⟨x0, x1, x2, x3⟩, _⟩ := rowN4 hSw
        go_simp
      simp only [Act.put, List.setIfInBounds_toArray, List.set_cons_zero, List.set_cons_succ]
      refine take_call (i := 5) rfl (by kernel_rfl) (fun K2 hK => ?_)
      go_simp
      refine (ready_any av i cv bs s (bs i) i _ (shAt_of HO0.out) HL0.out.1 (HRT.out i hlt) (Nat.le_refl _) (HS.out i hlt).1 (HBD.out i hi)).mono ?_
      rintro e w1 ⟨rfl, hb⟩
      rw [← HSI.out]
      replace HB0 : Hid (Below w.heap.size w w1) := HB0.out.trans (hb.mono HB0.out.size)
      replace HO0 := Lib.hid (jown_below HO0.out hb)
      go_wp2_with fail
      refine hK.out _ _ (nrow_below hHeld hb) (fun hHeld2 => ?_)
      clear hK hHeld hb HL0
      have hHeld := hHeld2
      clear hHeld2
      refine take_do (i := 6) (v := (shV (bs i) (s i))) rfl (by kernel_rfl) (by kernel_rfl) (by kernel_rfl) (fun _ _ _ h => h) (by rfl) ?_ (by assumption) ?_
      · intro w hSw
        skip
        go_simp
      simp only [Act.put, List.setIfInBounds_toArray, List.set_cons_zero, List.set_cons_succ]
      refine take_call (i := 7) rfl (by kernel_rfl) (fun K2 hK => ?_)
      obtain ⟨Z1, hZ1⟩ : ∃ Z1, Z1 = w1.alloc (.cells #[.int .i64 (bs i).dy, .int .i64 (bs i).cw, .slice (bs i).pa (bs i).an (bs i).ak, .slice (bs i).pr (bs i).rn (bs i).rk, .int .i64 (s i)] 68) := ⟨_, rfl⟩
      have hb1 : Below w1.heap.size w1 Z1 := by rw [hZ1]; exact nbel_alloc _ _
      obtain ⟨gs, hgs⟩ : ∃ gs, gs = w1.heap.size := ⟨_, rfl⟩
      have HLL : Hid (Z1.rowIs gs 68 5 (rowN [.int .i64 (bs i).dy, .int .i64 (bs i).cw, .slice (bs i).pa (bs i).an (bs i).ak, .slice (bs i).pr (bs i).rn (bs i).rk, .int .i64 (s i)])) := by show World.rowIs _ _ _ _ _; rw [hZ1, hgs]; exact rowN_alloc _ _ _
      replace HB0 : Hid (Below w.heap.size w Z1) := HB0.out.trans (hb1.mono HB0.out.size)
      replace HO0 := Lib.hid (jown_below HO0.out hb1)
      go_simp
      rw [← hZ1, ← hgs]
      refine hK.out _ _ (nrow_below hHeld hb1) (fun hHeld2 => ?_)
      clear hK hHeld hb1 hZ1 hgs
      have hHeld := hHeld2
      clear hHeld2
      refine take_call (i := 8) rfl (by kernel_rfl) (fun K2 hK => ?_)
      refine jap_at rfl (.tmp 14) (.tmp 21) 45 rfl w.heap.size 68 i0 (.agg #[.int .i64 0, .int .i64 0, .slice none 0 0, .slice none 0 0, .int .i64 0]) 5 72 Tryd.underlying45 hi0 hz0 hz1 hz2 rfl (by decide) (.slice av i cv) i _ rfl HO0.out ⟨gs, 0, none⟩ 1 1 [.int .i64 (bs i).dy, .int .i64 (bs i).cw, .slice (bs i).pa (bs i).an (bs i).ak, .slice (bs i).pr (bs i).rn (bs i).rk, .int .i64 (s i)] rfl rfl ?_ ?_ (by unfold maxLen; omega) (by omega) HB0.out.size ?_
      · obtain ⟨⟨c0, c1, c2, c3, c4⟩, _⟩ := rowN5 HLL.out
        intro j u hj
        match j, hj with
        | 0, hj => simp at hj; subst hj; simpa [Addr.add] using c0
        | 1, hj => simp at hj; subst hj; simpa [Addr.add] using c1
        | 2, hj => simp at hj; subst hj; simpa [Addr.add] using c2
        | 3, hj => simp at hj; subst hj; simpa [Addr.add] using c3
        | 4, hj => simp at hj; subst hj; simpa [Addr.add] using c4
      · intro u hu
        simp at hu
        rcases hu with rfl | rfl | rfl | rfl | rfl <;> rfl
      intro v' Z2 hown2 hgrow _
      have HO2 : Hid (Z2.ownsRow w.heap.size 68 5 v' (i + 1) (shL bs s (i + 1))) := hown2
      have HB2 : Hid (Below w.heap.size w Z2) := HB0.out.grown hgrow HB0.out.size (fun k hk => (HO0.out.lt k hk).1)
      have hrow2 := hHeld.of_block (hgrow.block _ hHeld.lt (fun e => jblk_ne hHeld HO0.out e.symm (by decide) rfl))
      obtain ⟨a9, k9, rfl⟩ := jown_shape hown2
      refine hK.out _ _ hrow2 (fun hHeld2 => ?_)
      clear hK hHeld hown2 hgrow hrow2 HLL HB0 HO0
      have hHeld := hHeld2
      clear hHeld2
      simp only [Act.put, List.setIfInBounds_toArray, List.set_cons_zero, List.set_cons_succ]
      refine take_do (i := 9) (v := (.slice a9 (i + 1) k9)) rfl (by kernel_rfl) (by kernel_rfl) (by kernel_rfl) (fun _ _ _ h => h) (by rfl) ?_ (by assumption) ?_
      · intro w hSw
        skip
        go_simp
      simp only [Act.put, List.setIfInBounds_toArray, List.set_cons_zero, List.set_cons_succ]
      refine wpAnyH_done (by kernel_rfl) ?_ _
      clear hHeld
      go_wp2_with fail
      go_roundw
      case rel => exact ⟨i + 1, by omega, by go_num, HO2, HB2⟩
      case measure => simp [intOf]; omega
    · obtain rfl : i = m := by omega
      go_wp2_with fail
      go_ret
      exact ⟨⟨_, _, rfl, shAt_of hO.out⟩, hB.out⟩
end Go.Proofs.YtganlipebndeoaaDoor
