/-
  A cycle in the making: the program's truths.
-/
import Derived.Test.YtogfjomfhenhfaaGreatDoorGdA
namespace Go.Proofs.YtogfjomfhenhfaaGreatDoor
open Go.RowKit Go.Deep

theorem isin_tail {ix : Option Addr} {m : Nat} {F : Nat → Int} {w : World} (h : IsIn ix m F w) (hm : 0 < m) : ∃ b o, ix = some ⟨b, o, none⟩ ∧ w.cell? ⟨b, o, none⟩ = some (.int .i64 (F 0)) ∧ IsIn (some ⟨b, o + 1, none⟩) (m - 1) (fun j => F (j + 1)) w := by
  obtain ⟨b, o, e, hc⟩ := h.pos hm
  refine ⟨b, o, e, by simpa using hc 0 hm, Or.inr ⟨b, o + 1, rfl, fun j hj => ?_⟩⟩
  have := hc (j + 1) (by omega)
  rw [← this]
  congr 2
  omega
set_option maxRecDepth 100000 in
set_option maxHeartbeats 4000000 in
theorem nextIn_any {s : Cy.Lg} {sa : Option Addr} {sk : Nat} {sb : Option Addr} {sl n cb tg cg : Nat} {T C : Nat → Int} {fl : Bool} {ix : Option Addr} {m k : Nat} {F : Nat → Int} (w W : World) (h : CyC s sa sk sb sl n cb tg cg T C fl ix m k F w W) (hm : 0 < m) :
    Calls Tryz.prog 93 #[.pointer (some ⟨cb, 0, none⟩)] W fun e w' => e = .returned (.int .i64 (F 0)) ∧ (∃ iy k', CyC s sa sk sb sl n cb tg cg T C fl iy (m - 1) k' (fun j => F (j + 1)) w w') ∧ OnlyC cb cg W w' := by
  obtain ⟨b, o, rfl, c0, ht⟩ := isin_tail h.i.1 hm
  have H := Lib.hid h
  have HT := Lib.hid ht
  have HK := Lib.hid h.i.2
  have ci := (h.old.cell (World.block_lt_of_cell? _ _ c0)).trans c0
  have hk1 : 1 ≤ k := by have := h.i.2; omega
  have hmz : ¬ m = 0 := by omega
  have hmz1 : (1 : Int) ≤ (m : Int) := by omega
  have hmz2 : (0 : Int) < (m : Int) := by omega
  have hmk : (m : Int) ≤ (k : Int) := by have := h.i.2; omega
  clear h ht c0
  obtain ⟨⟨r0, r1, r2, r3, r4, r5, r6⟩, f0, f1, f2, f3, f4, f5, f6⟩ := rowN7c H.out.row
  have hlt := H.out.row.lt
  go_enter Tryz.func93, Tryz.ntmps93
  go_wp2_with fail
  · go_ret
    have hm0 : m - 1 = 0 := by have := HK.out; omega
    exact ⟨rfl, ⟨_, _, H.out.putI ⟨Or.inl hm0, by omega⟩⟩, (OnlyC.of_below (Below.refl _ _)).set1 _ _⟩
  · go_ret
    exact ⟨rfl, ⟨_, _, H.out.putI ⟨HT.out, by have := HK.out; omega⟩⟩, (OnlyC.of_below (Below.refl _ _)).set1 _ _⟩
theorem countOn_is (c x cn : Int) (w : World) (hc : 0 ≤ c ∧ c ≤ 101) (hx : 0 ≤ x ∧ x ≤ 1) (h : cn = if x = 1 then min 101 (c + 1) else 0) : Calls Tryz.prog 117 #[.int .i64 c, .int .i64 x] w fun e w' => e = .returned (.int .i64 cn) ∧ w' = w := by
  rw [h]
  exact countOn_any c x w hc hx
set_option maxRecDepth 100000 in
set_option maxHeartbeats 8000000 in
theorem delayed_any {s : Cy.Lg} {sa : Option Addr} {sk : Nat} {sb : Option Addr} {sl n cb tg cg : Nat} {T C : Nat → Int} {fl : Bool} {ix : Option Addr} {m k : Nat} {F : Nat → Int} (b : Pg.Bk) (i : Nat) (w W : World) (h : CyC s sa sk sb sl n cb tg cg T C fl ix m k F w W) (h2 : LgAt s sa sb w) (hn : s.n = n ∧ s.m = n) (hst : Cy.Bits n s.T ∧ Cy.Cnts n s.C) (hb : Cy.Bits n T) (hi : i < n) (hk : b.kind = 7) (ha : b.a.toNat < i ∧ ((b.a.toNat : Nat) : Int) = b.a) :
    Calls Tryz.prog 95 #[.pointer (some ⟨cb, 0, none⟩), .int .i64 (i : Nat), bkV b] W fun e w' => e = .returned (.int .i64 (if b.b < Cy.ct b i s.C T then 1 else 0)) ∧ CyC s sa sk sb sl n cb tg cg T (updI C i (Cy.ct b i s.C T)) fl ix m k F w w' ∧ OnlyC cb cg W w' := by
  obtain ⟨W1, hW1⟩ : ∃ W1, W1 = W.alloc (.cells #[.int .i64 b.kind, .string b.name, .int .i64 b.a, .int .i64 b.b] 84) := ⟨_, rfl⟩
  have R1 : Hid (W1.rowIs W.heap.size 84 4 (rowN [.int .i64 b.kind, .string b.name, .int .i64 b.a, .int .i64 b.b])) := by show World.rowIs _ _ _ _ _; rw [hW1]; exact rowN_alloc W [.int .i64 b.kind, .string b.name, .int .i64 b.a, .int .i64 b.b] _
  have BW : Hid (Below W.heap.size W W1) := by show Below _ _ _; rw [hW1]; exact nbel_alloc _ _
  have H := Lib.hid (h.below BW.out)
  have H2 := Lib.hid h2
  have HW := Lib.hid hW1
  clear h h2 hW1
  obtain ⟨⟨x0, x1, x2, x3⟩, _⟩ := rowN4 R1.out
  rw [HW.out] at x0 x1 x2 x3
  obtain ⟨a, haz⟩ : ∃ a : Nat, b.a = (a : Int) := ⟨_, ha.2.symm⟩
  have az : b.a.toNat = a := by omega
  have hai : a < i := by omega
  have han : (a : Int) < (n : Int) := by omega
  have hin : (i : Int) < (n : Int) := by omega
  have him : i < s.m := by omega
  have himz : (i : Int) < (s.m : Int) := by omega
  have hcs := hst.2 i hi
  have hta := hb a (by omega)
  have hct : Cy.ct b i s.C T = if T a = 1 then min 101 (s.C i + 1) else 0 := by unfold Cy.ct; simp [hk, az]
  rw [hct]
  have hcb : (0 ≤ (if T a = 1 then min 101 (s.C i + 1) else 0)) ∧ (if T a = 1 then min 101 (s.C i + 1) else 0) ≤ 101 := by split <;> omega
  obtain ⟨cn, hcn⟩ : ∃ cn, cn = (if T a = 1 then min 101 (s.C i + 1) else 0) := ⟨_, rfl⟩
  have HCN := Lib.hid hcn
  rw [← hcn] at hcb ⊢
  obtain ⟨z, hz⟩ : ∃ z : Int, z = (if b.b < cn then 1 else 0) := ⟨_, rfl⟩
  have HZV := Lib.hid hz
  rw [← hz]
  clear hct hcn hst hb hz
  rw [haz] at R1 HW
  clear ha az hk
  go_enter Tryz.func95, Tryz.ntmps95
  go_wp2_with fail
  rw [← HW.out]
  clear HW x0 x1 x2 x3
  refine wp_region_held_drew (S := fun V => Below W1.heap.size W1 V) (by kernel_rfl) (Below.refl _ _).drew (fun hHeld => ?_)
  obtain ⟨Z, hZ⟩ : ∃ Z, Z = W1.drew := ⟨_, rfl⟩
  rw [← hZ] at hHeld ⊢
  clear hZ
  obtain ⟨sg, esg, _⟩ := (H2.out.c.below H.out.old).at1 him
  subst esg
  refine take_do (i := 0) (v := (.pointer (some ⟨cb, 0, none⟩))) rfl (by kernel_rfl) (by kernel_rfl) (by kernel_rfl) (fun _ _ _ h => h) (by rfl) ?_ (by assumption) ?_
  · intro w hSw
    go_simp
  simp only [Act.put, List.setIfInBounds_toArray, List.set_cons_zero, List.set_cons_succ]
  refine take_do (i := 1) (v := (.pointer (some ⟨cb, 0, none⟩))) rfl (by kernel_rfl) (by kernel_rfl) (by kernel_rfl) (fun _ _ _ h => h) (by rfl) ?_ (by assumption) ?_
  · intro w hSw
    go_simp
  simp only [Act.put, List.setIfInBounds_toArray, List.set_cons_zero, List.set_cons_succ]
  refine take_do (i := 2) (v := (.pointer (some ⟨cb, 0, none⟩))) rfl (by kernel_rfl) (by kernel_rfl) (by kernel_rfl) (fun _ _ _ h => h) (by rfl) ?_ (by assumption) ?_
  · intro w hSw
    go_simp
  simp only [Act.put, List.setIfInBounds_toArray, List.set_cons_zero, List.set_cons_succ]
  refine take_do (i := 3) (v := (.pointer (some ⟨cb, 1, none⟩))) rfl (by kernel_rfl) (by kernel_rfl) (by kernel_rfl) (fun _ _ _ h => h) (by rfl) ?_ (by assumption) ?_
  · intro w hSw
    go_simp
  simp only [Act.put, List.setIfInBounds_toArray, List.set_cons_zero, List.set_cons_succ]
  refine take_do (i := 4) (v := (.slice (some ⟨sg, 0, none⟩) s.m sl)) rfl (by kernel_rfl) (by kernel_rfl) (by kernel_rfl) (fun _ _ _ h => h) (by rfl) ?_ (by assumption) ?_
  · intro w hSw
    obtain ⟨⟨r0, r1, r2, r3, r4, r5, r6⟩, _⟩ := rowN7c (nrow_below H.out.row hSw)
    go_simp
  simp only [Act.put, List.setIfInBounds_toArray, List.set_cons_zero, List.set_cons_succ]
  refine take_do (i := 5) (v := (.int .i64 i)) rfl (by kernel_rfl) (by kernel_rfl) (by kernel_rfl) (fun _ _ _ h => h) (by rfl) ?_ (by assumption) ?_
  · intro w hSw
    go_simp
  simp only [Act.put, List.setIfInBounds_toArray, List.set_cons_zero, List.set_cons_succ]
  refine take_do (i := 6) (v := (.pointer (some ⟨sg, i, none⟩))) rfl (by kernel_rfl) (by kernel_rfl) (by kernel_rfl) (fun _ _ _ h => h) (by rfl) ?_ (by assumption) ?_
  · intro w hSw
    go_simp
  simp only [Act.put, List.setIfInBounds_toArray, List.set_cons_zero, List.set_cons_succ]
  refine take_do (i := 7) (v := (.int .i64 (s.C i))) rfl (by kernel_rfl) (by kernel_rfl) (by kernel_rfl) (fun _ _ _ h => h) (by rfl) ?_ (by assumption) ?_
  · intro w hSw
    obtain ⟨sg', esg, cs⟩ := (H2.out.c.below (H.out.old.trans (hSw.mono H.out.old.size))).at1 him
    cases esg
    go_simp
  simp only [Act.put, List.setIfInBounds_toArray, List.set_cons_zero, List.set_cons_succ]
  refine take_do (i := 8) (v := (.pointer (some ⟨cb, 0, none⟩))) rfl (by kernel_rfl) (by kernel_rfl) (by kernel_rfl) (fun _ _ _ h => h) (by rfl) ?_ (by assumption) ?_
  · intro w hSw
    go_simp
  simp only [Act.put, List.setIfInBounds_toArray, List.set_cons_zero, List.set_cons_succ]
  refine take_do (i := 9) (v := (.pointer (some ⟨cb, 0, none⟩))) rfl (by kernel_rfl) (by kernel_rfl) (by kernel_rfl) (fun _ _ _ h => h) (by rfl) ?_ (by assumption) ?_
  · intro w hSw
    go_simp
  simp only [Act.put, List.setIfInBounds_toArray, List.set_cons_zero, List.set_cons_succ]
  refine take_do (i := 10) (v := (.pointer (some ⟨cb, 3, none⟩))) rfl (by kernel_rfl) (by kernel_rfl) (by kernel_rfl) (fun _ _ _ h => h) (by rfl) ?_ (by assumption) ?_
  · intro w hSw
    go_simp
  simp only [Act.put, List.setIfInBounds_toArray, List.set_cons_zero, List.set_cons_succ]
  refine take_do (i := 11) (v := (.pointer (some ⟨cb, 3, none⟩))) rfl (by kernel_rfl) (by kernel_rfl) (by kernel_rfl) (fun _ _ _ h => h) (by rfl) ?_ (by assumption) ?_
  · intro w hSw
    go_simp
  simp only [Act.put, List.setIfInBounds_toArray, List.set_cons_zero, List.set_cons_succ]
  refine take_do (i := 12) (v := (.slice (some ⟨tg, 0, none⟩) n n)) rfl (by kernel_rfl) (by kernel_rfl) (by kernel_rfl) (fun _ _ _ h => h) (by rfl) ?_ (by assumption) ?_
  · intro w hSw
    obtain ⟨⟨r0, r1, r2, r3, r4, r5, r6⟩, _⟩ := rowN7c (nrow_below H.out.row hSw)
    go_simp
  simp only [Act.put, List.setIfInBounds_toArray, List.set_cons_zero, List.set_cons_succ]
  refine take_do (i := 13) (v := (.pointer (some ⟨W.heap.size, 2, none⟩))) rfl (by kernel_rfl) (by kernel_rfl) (by kernel_rfl) (fun _ _ _ h => h) (by rfl) ?_ (by assumption) ?_
  · intro w hSw
    go_simp
  simp only [Act.put, List.setIfInBounds_toArray, List.set_cons_zero, List.set_cons_succ]
  refine take_do (i := 14) (v := (.int .i64 a)) rfl (by kernel_rfl) (by kernel_rfl) (by kernel_rfl) (fun _ _ _ h => h) (by rfl) ?_ (by assumption) ?_
  · intro w hSw
    obtain ⟨⟨a0, a1, a2, a3⟩, _⟩ := rowN4 (nrow_below R1.out hSw)
    go_simp
  simp only [Act.put, List.setIfInBounds_toArray, List.set_cons_zero, List.set_cons_succ]
  refine take_do (i := 15) (v := (.pointer (some ⟨tg, a, none⟩))) rfl (by kernel_rfl) (by kernel_rfl) (by kernel_rfl) (fun _ _ _ h => h) (by rfl) ?_ (by assumption) ?_
  · intro w hSw
    go_simp
  simp only [Act.put, List.setIfInBounds_toArray, List.set_cons_zero, List.set_cons_succ]
  refine take_do (i := 16) (v := (.int .i64 (T a))) rfl (by kernel_rfl) (by kernel_rfl) (by kernel_rfl) (fun _ _ _ h => h) (by rfl) ?_ (by assumption) ?_
  · intro w hSw
    have tt := (H.out.t.below hSw).cell (i := a) (by omega)
    go_simp
  simp only [Act.put, List.setIfInBounds_toArray, List.set_cons_zero, List.set_cons_succ]
  refine take_call (i := 17) rfl (by kernel_rfl) (fun K2 hK => ?_)
  go_simp
  refine (countOn_is (s.C i) (T a) cn _ hcs hta HCN.out).mono ?_
  rintro e w5 ⟨rfl, hw⟩
  rw [hw]
  clear hw w5
  go_wp2_with fail
  refine hK.out _ _ hHeld (fun hHeld2 => ?_)
  clear hK hHeld
  have hHeld := hHeld2
  clear hHeld2
  refine take_do (i := 18) (v := (.int .i64 cn)) rfl (by kernel_rfl) (by kernel_rfl) (by kernel_rfl) (fun _ _ _ h => h) (by rfl) ?_ (by assumption) ?_
  · intro w hSw
    go_simp
  simp only [Act.put, List.setIfInBounds_toArray, List.set_cons_zero, List.set_cons_succ]
  refine wpAnyH_done (by kernel_rfl) ?_ _
  have HZ := Lib.hid (H.out.below hHeld)
  have RZ := Lib.hid (nrow_below R1.out hHeld)
  have BZ : Hid (Below W.heap.size W Z) := BW.out.trans (hHeld.mono BW.out.size)
  clear hHeld H R1 BW
  obtain ⟨⟨r0, r1, r2, r3, r4, r5, r6⟩, _⟩ := rowN7c HZ.out.row
  have ci := HZ.out.c.cell (i := i) hi
  have fc := HZ.out.c.frozen i
  have hlc := HZ.out.c.lt
  have HZ2 := Lib.hid (HZ.out.putC i cn)
  have RZ2 := Lib.hid (nrow_set RZ.out (p := ⟨cg, i, none⟩) (isblk_ne HZ.out.c RZ.out (by decide)) (.int .i64 cn))
  obtain ⟨⟨y0, y1, y2, y3⟩, _⟩ := rowN4 RZ.out
  have hne : W.heap.size ≠ cg := isblk_ne HZ.out.c RZ.out (by decide)
  by_cases hq : b.b < cn
  · have HQ1 : Hid (z = 1) := HZV.out.trans (if_pos hq)
    go_wp2_with fail
    refine (truth_any true _).mono ?_
    rintro e w5 ⟨rfl, hw⟩
    rw [hw]
    clear hw w5
    go_wp2_with fail
    go_ret
    exact ⟨by rw [HQ1.out]; rfl, HZ2.out, (OnlyC.of_below BZ.out).set2 _ _⟩
  · have HQ1 : Hid (z = 0) := HZV.out.trans (if_neg hq)
    go_wp2_with fail
    refine (truth_any false _).mono ?_
    rintro e w5 ⟨rfl, hw⟩
    rw [hw]
    clear hw w5
    go_wp2_with fail
    go_ret
    exact ⟨by rw [HQ1.out]; rfl, HZ2.out, (OnlyC.of_below BZ.out).set2 _ _⟩
/-- The ins that are left behind a block. -/
def Cy.lm (b : Pg.Bk) (m : Nat) : Nat := if b.kind = 1 then m - 1 else m
def Cy.lf (b : Pg.Bk) (F : Nat → Int) : Nat → Int := if b.kind = 1 then fun j => F (j + 1) else F
set_option maxRecDepth 100000 in
set_option maxHeartbeats 8000000 in
theorem truthAt_any {s : Cy.Lg} {sa : Option Addr} {sk : Nat} {sb : Option Addr} {sl n cb tg cg : Nat} {T C : Nat → Int} {fl : Bool} {ix : Option Addr} {m k : Nat} {F : Nat → Int} (b : Pg.Bk) (i : Nat) (w W : World) (h : CyC s sa sk sb sl n cb tg cg T C fl ix m k F w W) (h2 : LgAt s sa sb w) (hn : s.n = n ∧ s.m = n) (hst : Cy.Bits n s.T ∧ Cy.Cnts n s.C) (hb : Cy.Bits n T) (hi : i < n) (hp : Pg.PartsOk b i n) (hm : b.kind = 1 → 0 < m) (hC : C i = 0) :
    Calls Tryz.prog 75 #[.pointer (some ⟨cb, 0, none⟩), .int .i64 (i : Nat), bkV b] W fun e w' => e = .returned (.int .i64 (Cy.vl b i s.T s.C T (F 0))) ∧ (∃ iy k', CyC s sa sk sb sl n cb tg cg T (updI C i (Cy.ct b i s.C T)) fl iy (Cy.lm b m) k' (Cy.lf b F) w w') ∧ OnlyC cb cg W w' := by
  obtain ⟨W1, hW1⟩ : ∃ W1, W1 = W.alloc (.cells #[.int .i64 b.kind, .string b.name, .int .i64 b.a, .int .i64 b.b] 84) := ⟨_, rfl⟩
  have R1 : Hid (W1.rowIs W.heap.size 84 4 (rowN [.int .i64 b.kind, .string b.name, .int .i64 b.a, .int .i64 b.b])) := by show World.rowIs _ _ _ _ _; rw [hW1]; exact rowN_alloc W [.int .i64 b.kind, .string b.name, .int .i64 b.a, .int .i64 b.b] _
  have BW : Hid (Below W.heap.size W W1) := by show Below _ _ _; rw [hW1]; exact nbel_alloc _ _
  have H := Lib.hid (h.below BW.out)
  have H2 := Lib.hid h2
  have HW := Lib.hid hW1
  clear h h2 hW1
  obtain ⟨⟨x0, x1, x2, x3⟩, _⟩ := rowN4 R1.out
  rw [HW.out] at x0 x1 x2 x3
  have hkk := hp.kind
  have hkc : b.kind = 1 ∨ b.kind = 2 ∨ b.kind = 3 ∨ b.kind = 4 ∨ b.kind = 5 ∨ b.kind = 6 ∨ b.kind = 7 := by omega
  clear hkk
  have HCU : Hid (b.kind ≠ 7 → updI C i (Cy.ct b i s.C T) = C) := fun hk => by rw [Cy.ct_no hk]; exact Cy.upd_same hC
  clear hC
  rcases hkc with hk | hk | hk | hk | hk | hk | hk
  · have HV : Hid (Cy.vl b i s.T s.C T (F 0) = F 0) := Cy.vl_1 hk
    have HC : Hid (updI C i (Cy.ct b i s.C T) = C) := HCU.out (by omega)
    have HM : Hid (Cy.lm b m = m - 1 ∧ Cy.lf b F = (fun j => F (j + 1))) := by show _ ∧ _; unfold Cy.lm Cy.lf; simp [hk]
    have q1 : (b.kind == 1) = true := by rw [hk]; rfl
    have HK := Lib.hid (hm hk)
    clear hk hm hp hb hst
    go_enter Tryz.func75, Tryz.ntmps75
    go_wp2_with fail
    rw [← HW.out]
    clear HW x0 x1 x2 x3
    refine (nextIn_any w W1 H.out HK.out).mono ?_
    rintro e w2 ⟨rfl, hy, ho⟩
    have HY := Lib.hid hy
    have HO := Lib.hid ho
    clear hy ho
    go_wp2_with fail
    go_ret
    obtain ⟨iy, k', hc⟩ := HY.out
    exact ⟨by rw [HV.out]; rfl, ⟨iy, k', by rw [HC.out, HM.out.1, HM.out.2]; exact hc⟩, (OnlyC.of_below BW.out).trans HO.out⟩
  · have HV : Hid (Cy.vl b i s.T s.C T (F 0) = min (T b.a.toNat) (T b.b.toNat)) := Cy.vl_2 hk
    have HC : Hid (updI C i (Cy.ct b i s.C T) = C) := HCU.out (by omega)
    have HM : Hid (Cy.lm b m = m ∧ Cy.lf b F = F) := by show _ ∧ _; unfold Cy.lm Cy.lf; simp [hk]
    have q1 : (b.kind == 1) = false := by rw [hk]; rfl
    have q2 : (b.kind == 2) = true := by rw [hk]; rfl
    obtain ⟨a, az⟩ : ∃ x : Nat, b.a = (x : Int) := ⟨_, (Cy.look_a hp (by omega)).2.symm⟩
    have hai : a < i := by have := (Cy.look_a hp (by omega)).1; omega
    have han : (a : Int) < (n : Int) := by omega
    have hat : b.a.toNat = a := by omega
    have hab := hb a (by omega)
    obtain ⟨d, dz⟩ : ∃ x : Nat, b.b = (x : Int) := ⟨_, (Cy.look_b hp (by omega)).2.symm⟩
    have hdi : d < i := by have := (Cy.look_b hp (by omega)).1; omega
    have hdn : (d : Int) < (n : Int) := by omega
    have hdt : b.b.toNat = d := by omega
    have hdb := hb d (by omega)
    rw [hat, hdt] at HV
    have hbt := Cy.and_bit hab hdb
    rw [az, dz] at R1 HW
    clear hk hm hp hb hst
    go_enter Tryz.func75, Tryz.ntmps75
    go_wp2_with fail
    rw [← HW.out]
    clear HW x0 x1 x2 x3
    refine wp_region_held_drew (S := fun V => Below W1.heap.size W1 V) (by kernel_rfl) (Below.refl _ _).drew (fun hHeld => ?_)
    obtain ⟨Z, hZ⟩ : ∃ Z, Z = W1.drew := ⟨_, rfl⟩
    rw [← hZ] at hHeld ⊢
    clear hZ
    refine take_do (i := 0) (v := (.pointer (some ⟨cb, 0, none⟩))) rfl (by kernel_rfl) (by kernel_rfl) (by kernel_rfl) (fun _ _ _ h => h) (by rfl) ?_ (by assumption) ?_
    · intro w hSw
      go_simp
    simp only [Act.put, List.setIfInBounds_toArray, List.set_cons_zero, List.set_cons_succ]
    refine take_do (i := 1) (v := (.pointer (some ⟨cb, 0, none⟩))) rfl (by kernel_rfl) (by kernel_rfl) (by kernel_rfl) (fun _ _ _ h => h) (by rfl) ?_ (by assumption) ?_
    · intro w hSw
      go_simp
    simp only [Act.put, List.setIfInBounds_toArray, List.set_cons_zero, List.set_cons_succ]
    refine take_do (i := 2) (v := (.pointer (some ⟨cb, 3, none⟩))) rfl (by kernel_rfl) (by kernel_rfl) (by kernel_rfl) (fun _ _ _ h => h) (by rfl) ?_ (by assumption) ?_
    · intro w hSw
      go_simp
    simp only [Act.put, List.setIfInBounds_toArray, List.set_cons_zero, List.set_cons_succ]
    refine take_do (i := 3) (v := (.pointer (some ⟨cb, 3, none⟩))) rfl (by kernel_rfl) (by kernel_rfl) (by kernel_rfl) (fun _ _ _ h => h) (by rfl) ?_ (by assumption) ?_
    · intro w hSw
      go_simp
    simp only [Act.put, List.setIfInBounds_toArray, List.set_cons_zero, List.set_cons_succ]
    refine take_do (i := 4) (v := (.slice (some ⟨tg, 0, none⟩) n n)) rfl (by kernel_rfl) (by kernel_rfl) (by kernel_rfl) (fun _ _ _ h => h) (by rfl) ?_ (by assumption) ?_
    · intro w hSw
      obtain ⟨⟨r0, r1, r2, r3, r4, r5, r6⟩, _⟩ := rowN7c (nrow_below H.out.row hSw)
      go_simp
    simp only [Act.put, List.setIfInBounds_toArray, List.set_cons_zero, List.set_cons_succ]
    refine take_do (i := 5) (v := (.pointer (some ⟨W.heap.size, 2, none⟩))) rfl (by kernel_rfl) (by kernel_rfl) (by kernel_rfl) (fun _ _ _ h => h) (by rfl) ?_ (by assumption) ?_
    · intro w hSw
      go_simp
    simp only [Act.put, List.setIfInBounds_toArray, List.set_cons_zero, List.set_cons_succ]
    refine take_do (i := 6) (v := (.int .i64 a)) rfl (by kernel_rfl) (by kernel_rfl) (by kernel_rfl) (fun _ _ _ h => h) (by rfl) ?_ (by assumption) ?_
    · intro w hSw
      obtain ⟨⟨a0, a1, a2, a3⟩, _⟩ := rowN4 (nrow_below R1.out hSw)
      go_simp
    simp only [Act.put, List.setIfInBounds_toArray, List.set_cons_zero, List.set_cons_succ]
    refine take_do (i := 7) (v := (.pointer (some ⟨tg, a, none⟩))) rfl (by kernel_rfl) (by kernel_rfl) (by kernel_rfl) (fun _ _ _ h => h) (by rfl) ?_ (by assumption) ?_
    · intro w hSw
      go_simp
    simp only [Act.put, List.setIfInBounds_toArray, List.set_cons_zero, List.set_cons_succ]
    refine take_do (i := 8) (v := (.int .i64 (T a))) rfl (by kernel_rfl) (by kernel_rfl) (by kernel_rfl) (fun _ _ _ h => h) (by rfl) ?_ (by assumption) ?_
    · intro w hSw
      have tt := (H.out.t.below hSw).cell (i := a) (by omega)
      go_simp
    simp only [Act.put, List.setIfInBounds_toArray, List.set_cons_zero, List.set_cons_succ]
    refine take_do (i := 9) (v := (.pointer (some ⟨cb, 0, none⟩))) rfl (by kernel_rfl) (by kernel_rfl) (by kernel_rfl) (fun _ _ _ h => h) (by rfl) ?_ (by assumption) ?_
    · intro w hSw
      go_simp
    simp only [Act.put, List.setIfInBounds_toArray, List.set_cons_zero, List.set_cons_succ]
    refine take_do (i := 10) (v := (.pointer (some ⟨cb, 0, none⟩))) rfl (by kernel_rfl) (by kernel_rfl) (by kernel_rfl) (fun _ _ _ h => h) (by rfl) ?_ (by assumption) ?_
    · intro w hSw
      go_simp
    simp only [Act.put, List.setIfInBounds_toArray, List.set_cons_zero, List.set_cons_succ]
    refine take_do (i := 11) (v := (.pointer (some ⟨cb, 3, none⟩))) rfl (by kernel_rfl) (by kernel_rfl) (by kernel_rfl) (fun _ _ _ h => h) (by rfl) ?_ (by assumption) ?_
    · intro w hSw
      go_simp
    simp only [Act.put, List.setIfInBounds_toArray, List.set_cons_zero, List.set_cons_succ]
    refine take_do (i := 12) (v := (.pointer (some ⟨cb, 3, none⟩))) rfl (by kernel_rfl) (by kernel_rfl) (by kernel_rfl) (fun _ _ _ h => h) (by rfl) ?_ (by assumption) ?_
    · intro w hSw
      go_simp
    simp only [Act.put, List.setIfInBounds_toArray, List.set_cons_zero, List.set_cons_succ]
    refine take_do (i := 13) (v := (.slice (some ⟨tg, 0, none⟩) n n)) rfl (by kernel_rfl) (by kernel_rfl) (by kernel_rfl) (fun _ _ _ h => h) (by rfl) ?_ (by assumption) ?_
    · intro w hSw
      obtain ⟨⟨r0, r1, r2, r3, r4, r5, r6⟩, _⟩ := rowN7c (nrow_below H.out.row hSw)
      go_simp
    simp only [Act.put, List.setIfInBounds_toArray, List.set_cons_zero, List.set_cons_succ]
    refine take_do (i := 14) (v := (.pointer (some ⟨W.heap.size, 3, none⟩))) rfl (by kernel_rfl) (by kernel_rfl) (by kernel_rfl) (fun _ _ _ h => h) (by rfl) ?_ (by assumption) ?_
    · intro w hSw
      go_simp
    simp only [Act.put, List.setIfInBounds_toArray, List.set_cons_zero, List.set_cons_succ]
    refine take_do (i := 15) (v := (.int .i64 d)) rfl (by kernel_rfl) (by kernel_rfl) (by kernel_rfl) (fun _ _ _ h => h) (by rfl) ?_ (by assumption) ?_
    · intro w hSw
      obtain ⟨⟨a0, a1, a2, a3⟩, _⟩ := rowN4 (nrow_below R1.out hSw)
      go_simp
    simp only [Act.put, List.setIfInBounds_toArray, List.set_cons_zero, List.set_cons_succ]
    refine take_do (i := 16) (v := (.pointer (some ⟨tg, d, none⟩))) rfl (by kernel_rfl) (by kernel_rfl) (by kernel_rfl) (fun _ _ _ h => h) (by rfl) ?_ (by assumption) ?_
    · intro w hSw
      go_simp
    simp only [Act.put, List.setIfInBounds_toArray, List.set_cons_zero, List.set_cons_succ]
    refine take_do (i := 17) (v := (.int .i64 (T d))) rfl (by kernel_rfl) (by kernel_rfl) (by kernel_rfl) (fun _ _ _ h => h) (by rfl) ?_ (by assumption) ?_
    · intro w hSw
      have tt := (H.out.t.below hSw).cell (i := d) (by omega)
      go_simp
    simp only [Act.put, List.setIfInBounds_toArray, List.set_cons_zero, List.set_cons_succ]
    refine take_do (i := 18) (v := (.int .i64 (min (T a) (T d)))) rfl (by kernel_rfl) (by kernel_rfl) (by kernel_rfl) (fun _ _ _ h => h) (by rfl) ?_ (by assumption) ?_
    · intro w hSw
      have hbt2 := hbt
      go_simp
    simp only [Act.put, List.setIfInBounds_toArray, List.set_cons_zero, List.set_cons_succ]
    refine take_do (i := 19) (v := (.int .i64 (min (T a) (T d)))) rfl (by kernel_rfl) (by kernel_rfl) (by kernel_rfl) (fun _ _ _ h => h) (by rfl) ?_ (by assumption) ?_
    · intro w hSw
      go_simp
    simp only [Act.put, List.setIfInBounds_toArray, List.set_cons_zero, List.set_cons_succ]
    refine wpAnyH_done (by kernel_rfl) ?_ _
    go_wp2_with fail
    go_ret
    exact ⟨by rw [HV.out]; rfl, ⟨_, _, by rw [HC.out, HM.out.1, HM.out.2]; exact H.out.below hHeld⟩, OnlyC.of_below (BW.out.trans (hHeld.mono BW.out.size))⟩
  · have HV : Hid (Cy.vl b i s.T s.C T (F 0) = max (T b.a.toNat) (T b.b.toNat)) := Cy.vl_3 hk
    have HC : Hid (updI C i (Cy.ct b i s.C T) = C) := HCU.out (by omega)
    have HM : Hid (Cy.lm b m = m ∧ Cy.lf b F = F) := by show _ ∧ _; unfold Cy.lm Cy.lf; simp [hk]
    have q1 : (b.kind == 1) = false := by rw [hk]; rfl
    have q2 : (b.kind == 2) = false := by rw [hk]; rfl
    have q3 : (b.kind == 3) = true := by rw [hk]; rfl
    obtain ⟨a, az⟩ : ∃ x : Nat, b.a = (x : Int) := ⟨_, (Cy.look_a hp (by omega)).2.symm⟩
    have hai : a < i := by have := (Cy.look_a hp (by omega)).1; omega
    have han : (a : Int) < (n : Int) := by omega
    have hat : b.a.toNat = a := by omega
    have hab := hb a (by omega)
    obtain ⟨d, dz⟩ : ∃ x : Nat, b.b = (x : Int) := ⟨_, (Cy.look_b hp (by omega)).2.symm⟩
    have hdi : d < i := by have := (Cy.look_b hp (by omega)).1; omega
    have hdn : (d : Int) < (n : Int) := by omega
    have hdt : b.b.toNat = d := by omega
    have hdb := hb d (by omega)
    rw [hat, hdt] at HV
    have hbt := Cy.or_bit hab hdb
    rw [az, dz] at R1 HW
    clear hk hm hp hb hst
    go_enter Tryz.func75, Tryz.ntmps75
    go_wp2_with fail
    rw [← HW.out]
    clear HW x0 x1 x2 x3
    refine wp_region_held_drew (S := fun V => Below W1.heap.size W1 V) (by kernel_rfl) (Below.refl _ _).drew (fun hHeld => ?_)
    obtain ⟨Z, hZ⟩ : ∃ Z, Z = W1.drew := ⟨_, rfl⟩
    rw [← hZ] at hHeld ⊢
    clear hZ
    refine take_do (i := 0) (v := (.pointer (some ⟨cb, 0, none⟩))) rfl (by kernel_rfl) (by kernel_rfl) (by kernel_rfl) (fun _ _ _ h => h) (by rfl) ?_ (by assumption) ?_
    · intro w hSw
      go_simp
    simp only [Act.put, List.setIfInBounds_toArray, List.set_cons_zero, List.set_cons_succ]
    refine take_do (i := 1) (v := (.pointer (some ⟨cb, 0, none⟩))) rfl (by kernel_rfl) (by kernel_rfl) (by kernel_rfl) (fun _ _ _ h => h) (by rfl) ?_ (by assumption) ?_
    · intro w hSw
      go_simp
    simp only [Act.put, List.setIfInBounds_toArray, List.set_cons_zero, List.set_cons_succ]
    refine take_do (i := 2) (v := (.pointer (some ⟨cb, 3, none⟩))) rfl (by kernel_rfl) (by kernel_rfl) (by kernel_rfl) (fun _ _ _ h => h) (by rfl) ?_ (by assumption) ?_
    · intro w hSw
      go_simp
    simp only [Act.put, List.setIfInBounds_toArray, List.set_cons_zero, List.set_cons_succ]
    refine take_do (i := 3) (v := (.pointer (some ⟨cb, 3, none⟩))) rfl (by kernel_rfl) (by kernel_rfl) (by kernel_rfl) (fun _ _ _ h => h) (by rfl) ?_ (by assumption) ?_
    · intro w hSw
      go_simp
    simp only [Act.put, List.setIfInBounds_toArray, List.set_cons_zero, List.set_cons_succ]
    refine take_do (i := 4) (v := (.slice (some ⟨tg, 0, none⟩) n n)) rfl (by kernel_rfl) (by kernel_rfl) (by kernel_rfl) (fun _ _ _ h => h) (by rfl) ?_ (by assumption) ?_
    · intro w hSw
      obtain ⟨⟨r0, r1, r2, r3, r4, r5, r6⟩, _⟩ := rowN7c (nrow_below H.out.row hSw)
      go_simp
    simp only [Act.put, List.setIfInBounds_toArray, List.set_cons_zero, List.set_cons_succ]
    refine take_do (i := 5) (v := (.pointer (some ⟨W.heap.size, 2, none⟩))) rfl (by kernel_rfl) (by kernel_rfl) (by kernel_rfl) (fun _ _ _ h => h) (by rfl) ?_ (by assumption) ?_
    · intro w hSw
      go_simp
    simp only [Act.put, List.setIfInBounds_toArray, List.set_cons_zero, List.set_cons_succ]
    refine take_do (i := 6) (v := (.int .i64 a)) rfl (by kernel_rfl) (by kernel_rfl) (by kernel_rfl) (fun _ _ _ h => h) (by rfl) ?_ (by assumption) ?_
    · intro w hSw
      obtain ⟨⟨a0, a1, a2, a3⟩, _⟩ := rowN4 (nrow_below R1.out hSw)
      go_simp
    simp only [Act.put, List.setIfInBounds_toArray, List.set_cons_zero, List.set_cons_succ]
    refine take_do (i := 7) (v := (.pointer (some ⟨tg, a, none⟩))) rfl (by kernel_rfl) (by kernel_rfl) (by kernel_rfl) (fun _ _ _ h => h) (by rfl) ?_ (by assumption) ?_
    · intro w hSw
      go_simp
    simp only [Act.put, List.setIfInBounds_toArray, List.set_cons_zero, List.set_cons_succ]
    refine take_do (i := 8) (v := (.int .i64 (T a))) rfl (by kernel_rfl) (by kernel_rfl) (by kernel_rfl) (fun _ _ _ h => h) (by rfl) ?_ (by assumption) ?_
    · intro w hSw
      have tt := (H.out.t.below hSw).cell (i := a) (by omega)
      go_simp
    simp only [Act.put, List.setIfInBounds_toArray, List.set_cons_zero, List.set_cons_succ]
    refine take_do (i := 9) (v := (.pointer (some ⟨cb, 0, none⟩))) rfl (by kernel_rfl) (by kernel_rfl) (by kernel_rfl) (fun _ _ _ h => h) (by rfl) ?_ (by assumption) ?_
    · intro w hSw
      go_simp
    simp only [Act.put, List.setIfInBounds_toArray, List.set_cons_zero, List.set_cons_succ]
    refine take_do (i := 10) (v := (.pointer (some ⟨cb, 0, none⟩))) rfl (by kernel_rfl) (by kernel_rfl) (by kernel_rfl) (fun _ _ _ h => h) (by rfl) ?_ (by assumption) ?_
    · intro w hSw
      go_simp
    simp only [Act.put, List.setIfInBounds_toArray, List.set_cons_zero, List.set_cons_succ]
    refine take_do (i := 11) (v := (.pointer (some ⟨cb, 3, none⟩))) rfl (by kernel_rfl) (by kernel_rfl) (by kernel_rfl) (fun _ _ _ h => h) (by rfl) ?_ (by assumption) ?_
    · intro w hSw
      go_simp
    simp only [Act.put, List.setIfInBounds_toArray, List.set_cons_zero, List.set_cons_succ]
    refine take_do (i := 12) (v := (.pointer (some ⟨cb, 3, none⟩))) rfl (by kernel_rfl) (by kernel_rfl) (by kernel_rfl) (fun _ _ _ h => h) (by rfl) ?_ (by assumption) ?_
    · intro w hSw
      go_simp
    simp only [Act.put, List.setIfInBounds_toArray, List.set_cons_zero, List.set_cons_succ]
    refine take_do (i := 13) (v := (.slice (some ⟨tg, 0, none⟩) n n)) rfl (by kernel_rfl) (by kernel_rfl) (by kernel_rfl) (fun _ _ _ h => h) (by rfl) ?_ (by assumption) ?_
    · intro w hSw
      obtain ⟨⟨r0, r1, r2, r3, r4, r5, r6⟩, _⟩ := rowN7c (nrow_below H.out.row hSw)
      go_simp
    simp only [Act.put, List.setIfInBounds_toArray, List.set_cons_zero, List.set_cons_succ]
    refine take_do (i := 14) (v := (.pointer (some ⟨W.heap.size, 3, none⟩))) rfl (by kernel_rfl) (by kernel_rfl) (by kernel_rfl) (fun _ _ _ h => h) (by rfl) ?_ (by assumption) ?_
    · intro w hSw
      go_simp
    simp only [Act.put, List.setIfInBounds_toArray, List.set_cons_zero, List.set_cons_succ]
    refine take_do (i := 15) (v := (.int .i64 d)) rfl (by kernel_rfl) (by kernel_rfl) (by kernel_rfl) (fun _ _ _ h => h) (by rfl) ?_ (by assumption) ?_
    · intro w hSw
      obtain ⟨⟨a0, a1, a2, a3⟩, _⟩ := rowN4 (nrow_below R1.out hSw)
      go_simp
    simp only [Act.put, List.setIfInBounds_toArray, List.set_cons_zero, List.set_cons_succ]
    refine take_do (i := 16) (v := (.pointer (some ⟨tg, d, none⟩))) rfl (by kernel_rfl) (by kernel_rfl) (by kernel_rfl) (fun _ _ _ h => h) (by rfl) ?_ (by assumption) ?_
    · intro w hSw
      go_simp
    simp only [Act.put, List.setIfInBounds_toArray, List.set_cons_zero, List.set_cons_succ]
    refine take_do (i := 17) (v := (.int .i64 (T d))) rfl (by kernel_rfl) (by kernel_rfl) (by kernel_rfl) (fun _ _ _ h => h) (by rfl) ?_ (by assumption) ?_
    · intro w hSw
      have tt := (H.out.t.below hSw).cell (i := d) (by omega)
      go_simp
    simp only [Act.put, List.setIfInBounds_toArray, List.set_cons_zero, List.set_cons_succ]
    refine take_do (i := 18) (v := (.int .i64 (max (T a) (T d)))) rfl (by kernel_rfl) (by kernel_rfl) (by kernel_rfl) (fun _ _ _ h => h) (by rfl) ?_ (by assumption) ?_
    · intro w hSw
      have hbt2 := hbt
      go_simp
    simp only [Act.put, List.setIfInBounds_toArray, List.set_cons_zero, List.set_cons_succ]
    refine take_do (i := 19) (v := (.int .i64 (max (T a) (T d)))) rfl (by kernel_rfl) (by kernel_rfl) (by kernel_rfl) (fun _ _ _ h => h) (by rfl) ?_ (by assumption) ?_
    · intro w hSw
      go_simp
    simp only [Act.put, List.setIfInBounds_toArray, List.set_cons_zero, List.set_cons_succ]
    refine wpAnyH_done (by kernel_rfl) ?_ _
    go_wp2_with fail
    go_ret
    exact ⟨by rw [HV.out]; rfl, ⟨_, _, by rw [HC.out, HM.out.1, HM.out.2]; exact H.out.below hHeld⟩, OnlyC.of_below (BW.out.trans (hHeld.mono BW.out.size))⟩
  · have HV : Hid (Cy.vl b i s.T s.C T (F 0) = 1 - T b.a.toNat) := Cy.vl_4 hk
    have HC : Hid (updI C i (Cy.ct b i s.C T) = C) := HCU.out (by omega)
    have HM : Hid (Cy.lm b m = m ∧ Cy.lf b F = F) := by show _ ∧ _; unfold Cy.lm Cy.lf; simp [hk]
    have q1 : (b.kind == 1) = false := by rw [hk]; rfl
    have q2 : (b.kind == 2) = false := by rw [hk]; rfl
    have q3 : (b.kind == 3) = false := by rw [hk]; rfl
    have q4 : (b.kind == 4) = true := by rw [hk]; rfl
    obtain ⟨a, az⟩ : ∃ x : Nat, b.a = (x : Int) := ⟨_, (Cy.look_a hp (by omega)).2.symm⟩
    have hai : a < i := by have := (Cy.look_a hp (by omega)).1; omega
    have han : (a : Int) < (n : Int) := by omega
    have hat : b.a.toNat = a := by omega
    have hab := hb a (by omega)
    rw [hat] at HV
    rw [az] at R1 HW
    clear hk hm hp hb hst
    go_enter Tryz.func75, Tryz.ntmps75
    go_wp2_with fail
    rw [← HW.out]
    clear HW x0 x1 x2 x3
    refine wp_region_held_drew (S := fun V => Below W1.heap.size W1 V) (by kernel_rfl) (Below.refl _ _).drew (fun hHeld => ?_)
    obtain ⟨Z, hZ⟩ : ∃ Z, Z = W1.drew := ⟨_, rfl⟩
    rw [← hZ] at hHeld ⊢
    clear hZ
    refine take_do (i := 0) (v := (.pointer (some ⟨cb, 0, none⟩))) rfl (by kernel_rfl) (by kernel_rfl) (by kernel_rfl) (fun _ _ _ h => h) (by rfl) ?_ (by assumption) ?_
    · intro w hSw
      go_simp
    simp only [Act.put, List.setIfInBounds_toArray, List.set_cons_zero, List.set_cons_succ]
    refine take_do (i := 1) (v := (.pointer (some ⟨cb, 0, none⟩))) rfl (by kernel_rfl) (by kernel_rfl) (by kernel_rfl) (fun _ _ _ h => h) (by rfl) ?_ (by assumption) ?_
    · intro w hSw
      go_simp
    simp only [Act.put, List.setIfInBounds_toArray, List.set_cons_zero, List.set_cons_succ]
    refine take_do (i := 2) (v := (.pointer (some ⟨cb, 3, none⟩))) rfl (by kernel_rfl) (by kernel_rfl) (by kernel_rfl) (fun _ _ _ h => h) (by rfl) ?_ (by assumption) ?_
    · intro w hSw
      go_simp
    simp only [Act.put, List.setIfInBounds_toArray, List.set_cons_zero, List.set_cons_succ]
    refine take_do (i := 3) (v := (.pointer (some ⟨cb, 3, none⟩))) rfl (by kernel_rfl) (by kernel_rfl) (by kernel_rfl) (fun _ _ _ h => h) (by rfl) ?_ (by assumption) ?_
    · intro w hSw
      go_simp
    simp only [Act.put, List.setIfInBounds_toArray, List.set_cons_zero, List.set_cons_succ]
    refine take_do (i := 4) (v := (.slice (some ⟨tg, 0, none⟩) n n)) rfl (by kernel_rfl) (by kernel_rfl) (by kernel_rfl) (fun _ _ _ h => h) (by rfl) ?_ (by assumption) ?_
    · intro w hSw
      obtain ⟨⟨r0, r1, r2, r3, r4, r5, r6⟩, _⟩ := rowN7c (nrow_below H.out.row hSw)
      go_simp
    simp only [Act.put, List.setIfInBounds_toArray, List.set_cons_zero, List.set_cons_succ]
    refine take_do (i := 5) (v := (.pointer (some ⟨W.heap.size, 2, none⟩))) rfl (by kernel_rfl) (by kernel_rfl) (by kernel_rfl) (fun _ _ _ h => h) (by rfl) ?_ (by assumption) ?_
    · intro w hSw
      go_simp
    simp only [Act.put, List.setIfInBounds_toArray, List.set_cons_zero, List.set_cons_succ]
    refine take_do (i := 6) (v := (.int .i64 a)) rfl (by kernel_rfl) (by kernel_rfl) (by kernel_rfl) (fun _ _ _ h => h) (by rfl) ?_ (by assumption) ?_
    · intro w hSw
      obtain ⟨⟨a0, a1, a2, a3⟩, _⟩ := rowN4 (nrow_below R1.out hSw)
      go_simp
    simp only [Act.put, List.setIfInBounds_toArray, List.set_cons_zero, List.set_cons_succ]
    refine take_do (i := 7) (v := (.pointer (some ⟨tg, a, none⟩))) rfl (by kernel_rfl) (by kernel_rfl) (by kernel_rfl) (fun _ _ _ h => h) (by rfl) ?_ (by assumption) ?_
    · intro w hSw
      go_simp
    simp only [Act.put, List.setIfInBounds_toArray, List.set_cons_zero, List.set_cons_succ]
    refine take_do (i := 8) (v := (.int .i64 (T a))) rfl (by kernel_rfl) (by kernel_rfl) (by kernel_rfl) (fun _ _ _ h => h) (by rfl) ?_ (by assumption) ?_
    · intro w hSw
      have tt := (H.out.t.below hSw).cell (i := a) (by omega)
      go_simp
    simp only [Act.put, List.setIfInBounds_toArray, List.set_cons_zero, List.set_cons_succ]
    refine take_call (i := 9) rfl (by kernel_rfl) (fun K2 hK => ?_)
    go_simp
    refine (opp_any (T a) _ hab).mono ?_
    rintro e w5 ⟨rfl, hw⟩
    rw [hw]
    clear hw w5
    go_wp2_with fail
    refine hK.out _ _ hHeld (fun hHeld2 => ?_)
    clear hK hHeld
    have hHeld := hHeld2
    clear hHeld2
    refine take_do (i := 10) (v := (.int .i64 (1 - T a))) rfl (by kernel_rfl) (by kernel_rfl) (by kernel_rfl) (fun _ _ _ h => h) (by rfl) ?_ (by assumption) ?_
    · intro w hSw
      go_simp
    simp only [Act.put, List.setIfInBounds_toArray, List.set_cons_zero, List.set_cons_succ]
    refine wpAnyH_done (by kernel_rfl) ?_ _
    go_wp2_with fail
    go_ret
    exact ⟨by rw [HV.out]; rfl, ⟨_, _, by rw [HC.out, HM.out.1, HM.out.2]; exact H.out.below hHeld⟩, OnlyC.of_below (BW.out.trans (hHeld.mono BW.out.size))⟩
  · have HV : Hid (Cy.vl b i s.T s.C T (F 0) = s.T b.a.toNat) := Cy.vl_5 hk
    have HC : Hid (updI C i (Cy.ct b i s.C T) = C) := HCU.out (by omega)
    have HM : Hid (Cy.lm b m = m ∧ Cy.lf b F = F) := by show _ ∧ _; unfold Cy.lm Cy.lf; simp [hk]
    have q1 : (b.kind == 1) = false := by rw [hk]; rfl
    have q2 : (b.kind == 2) = false := by rw [hk]; rfl
    have q3 : (b.kind == 3) = false := by rw [hk]; rfl
    have q4 : (b.kind == 4) = false := by rw [hk]; rfl
    have q5 : (b.kind == 5) = true := by rw [hk]; rfl
    have hpp := Cy.look_p hp hk
    obtain ⟨a, az⟩ : ∃ x : Nat, b.a = (x : Int) := ⟨_, hpp.2.symm⟩
    have hai : a < n := by have := hpp.1; omega
    have has : a < s.n := by omega
    have hasn : (a : Int) < (s.n : Int) := by omega
    have hat : b.a.toNat = a := by omega
    clear hpp
    rw [hat] at HV
    rw [az] at R1 HW
    clear hk hm hp hb hst
    go_enter Tryz.func75, Tryz.ntmps75
    go_wp2_with fail
    rw [← HW.out]
    clear HW x0 x1 x2 x3
    refine wp_region_held_drew (S := fun V => Below W1.heap.size W1 V) (by kernel_rfl) (Below.refl _ _).drew (fun hHeld => ?_)
    obtain ⟨Z, hZ⟩ : ∃ Z, Z = W1.drew := ⟨_, rfl⟩
    rw [← hZ] at hHeld ⊢
    clear hZ
    obtain ⟨sg, esg, _⟩ := (H2.out.t.below H.out.old).at1 has
    subst esg
    refine take_do (i := 0) (v := (.pointer (some ⟨cb, 0, none⟩))) rfl (by kernel_rfl) (by kernel_rfl) (by kernel_rfl) (fun _ _ _ h => h) (by rfl) ?_ (by assumption) ?_
    · intro w hSw
      go_simp
    simp only [Act.put, List.setIfInBounds_toArray, List.set_cons_zero, List.set_cons_succ]
    refine take_do (i := 1) (v := (.pointer (some ⟨cb, 0, none⟩))) rfl (by kernel_rfl) (by kernel_rfl) (by kernel_rfl) (fun _ _ _ h => h) (by rfl) ?_ (by assumption) ?_
    · intro w hSw
      go_simp
    simp only [Act.put, List.setIfInBounds_toArray, List.set_cons_zero, List.set_cons_succ]
    refine take_do (i := 2) (v := (.pointer (some ⟨cb, 0, none⟩))) rfl (by kernel_rfl) (by kernel_rfl) (by kernel_rfl) (fun _ _ _ h => h) (by rfl) ?_ (by assumption) ?_
    · intro w hSw
      go_simp
    simp only [Act.put, List.setIfInBounds_toArray, List.set_cons_zero, List.set_cons_succ]
    refine take_do (i := 3) (v := (.pointer (some ⟨cb, 0, none⟩))) rfl (by kernel_rfl) (by kernel_rfl) (by kernel_rfl) (fun _ _ _ h => h) (by rfl) ?_ (by assumption) ?_
    · intro w hSw
      go_simp
    simp only [Act.put, List.setIfInBounds_toArray, List.set_cons_zero, List.set_cons_succ]
    refine take_do (i := 4) (v := (.slice (some ⟨sg, 0, none⟩) s.n sk)) rfl (by kernel_rfl) (by kernel_rfl) (by kernel_rfl) (fun _ _ _ h => h) (by rfl) ?_ (by assumption) ?_
    · intro w hSw
      obtain ⟨⟨r0, r1, r2, r3, r4, r5, r6⟩, _⟩ := rowN7c (nrow_below H.out.row hSw)
      go_simp
    simp only [Act.put, List.setIfInBounds_toArray, List.set_cons_zero, List.set_cons_succ]
    refine take_do (i := 5) (v := (.pointer (some ⟨W.heap.size, 2, none⟩))) rfl (by kernel_rfl) (by kernel_rfl) (by kernel_rfl) (fun _ _ _ h => h) (by rfl) ?_ (by assumption) ?_
    · intro w hSw
      go_simp
    simp only [Act.put, List.setIfInBounds_toArray, List.set_cons_zero, List.set_cons_succ]
    refine take_do (i := 6) (v := (.int .i64 a)) rfl (by kernel_rfl) (by kernel_rfl) (by kernel_rfl) (fun _ _ _ h => h) (by rfl) ?_ (by assumption) ?_
    · intro w hSw
      obtain ⟨⟨a0, a1, a2, a3⟩, _⟩ := rowN4 (nrow_below R1.out hSw)
      go_simp
    simp only [Act.put, List.setIfInBounds_toArray, List.set_cons_zero, List.set_cons_succ]
    refine take_do (i := 7) (v := (.pointer (some ⟨sg, a, none⟩))) rfl (by kernel_rfl) (by kernel_rfl) (by kernel_rfl) (fun _ _ _ h => h) (by rfl) ?_ (by assumption) ?_
    · intro w hSw
      go_simp
    simp only [Act.put, List.setIfInBounds_toArray, List.set_cons_zero, List.set_cons_succ]
    refine take_do (i := 8) (v := (.int .i64 (s.T a))) rfl (by kernel_rfl) (by kernel_rfl) (by kernel_rfl) (fun _ _ _ h => h) (by rfl) ?_ (by assumption) ?_
    · intro w hSw
      obtain ⟨sg', esg, cs⟩ := (H2.out.t.below (H.out.old.trans (hSw.mono H.out.old.size))).at1 has
      cases esg
      go_simp
    simp only [Act.put, List.setIfInBounds_toArray, List.set_cons_zero, List.set_cons_succ]
    refine take_do (i := 9) (v := (.int .i64 (s.T a))) rfl (by kernel_rfl) (by kernel_rfl) (by kernel_rfl) (fun _ _ _ h => h) (by rfl) ?_ (by assumption) ?_
    · intro w hSw
      go_simp
    simp only [Act.put, List.setIfInBounds_toArray, List.set_cons_zero, List.set_cons_succ]
    refine wpAnyH_done (by kernel_rfl) ?_ _
    go_wp2_with fail
    go_ret
    exact ⟨by rw [HV.out]; rfl, ⟨_, _, by rw [HC.out, HM.out.1, HM.out.2]; exact H.out.below hHeld⟩, OnlyC.of_below (BW.out.trans (hHeld.mono BW.out.size))⟩
  · have HV : Hid (Cy.vl b i s.T s.C T (F 0) = min (1 - T b.b.toNat) (max (T b.a.toNat) (s.T i))) := Cy.vl_6 hk
    have HC : Hid (updI C i (Cy.ct b i s.C T) = C) := HCU.out (by omega)
    have HM : Hid (Cy.lm b m = m ∧ Cy.lf b F = F) := by show _ ∧ _; unfold Cy.lm Cy.lf; simp [hk]
    have q1 : (b.kind == 1) = false := by rw [hk]; rfl
    have q2 : (b.kind == 2) = false := by rw [hk]; rfl
    have q3 : (b.kind == 3) = false := by rw [hk]; rfl
    have q4 : (b.kind == 4) = false := by rw [hk]; rfl
    have q5 : (b.kind == 5) = false := by rw [hk]; rfl
    have q6 : (b.kind == 6) = true := by rw [hk]; rfl
    obtain ⟨a, az⟩ : ∃ x : Nat, b.a = (x : Int) := ⟨_, (Cy.look_a hp (by omega)).2.symm⟩
    have hai : a < i := by have := (Cy.look_a hp (by omega)).1; omega
    have han : (a : Int) < (n : Int) := by omega
    have hat : b.a.toNat = a := by omega
    have hab := hb a (by omega)
    obtain ⟨d, dz⟩ : ∃ x : Nat, b.b = (x : Int) := ⟨_, (Cy.look_b hp (by omega)).2.symm⟩
    have hdi : d < i := by have := (Cy.look_b hp (by omega)).1; omega
    have hdn : (d : Int) < (n : Int) := by omega
    have hdt : b.b.toNat = d := by omega
    have hdb := hb d (by omega)
    have his : i < s.n := by omega
    have hisn : (i : Int) < (s.n : Int) := by omega
    have hsb := hst.1 i hi
    rw [hat, hdt] at HV
    have hbo := Cy.or_bit hab hsb
    have hmx : 0 ≤ max (T a) (s.T i) ∧ max (T a) (s.T i) ≤ 1 := by omega
    have hop : 0 ≤ 1 - T d ∧ 1 - T d ≤ 1 := by omega
    have hba := Cy.and_bit hop hmx
    rw [az, dz] at R1 HW
    clear hk hm hp hb hst
    go_enter Tryz.func75, Tryz.ntmps75
    go_wp2_with fail
    rw [← HW.out]
    clear HW x0 x1 x2 x3
    refine wp_region_held_drew (S := fun V => Below W1.heap.size W1 V) (by kernel_rfl) (Below.refl _ _).drew (fun hHeld => ?_)
    obtain ⟨Z, hZ⟩ : ∃ Z, Z = W1.drew := ⟨_, rfl⟩
    rw [← hZ] at hHeld ⊢
    clear hZ
    obtain ⟨sg, esg, _⟩ := (H2.out.t.below H.out.old).at1 his
    subst esg
    refine take_do (i := 0) (v := (.pointer (some ⟨cb, 0, none⟩))) rfl (by kernel_rfl) (by kernel_rfl) (by kernel_rfl) (fun _ _ _ h => h) (by rfl) ?_ (by assumption) ?_
    · intro w hSw
      go_simp
    simp only [Act.put, List.setIfInBounds_toArray, List.set_cons_zero, List.set_cons_succ]
    refine take_do (i := 1) (v := (.pointer (some ⟨cb, 0, none⟩))) rfl (by kernel_rfl) (by kernel_rfl) (by kernel_rfl) (fun _ _ _ h => h) (by rfl) ?_ (by assumption) ?_
    · intro w hSw
      go_simp
    simp only [Act.put, List.setIfInBounds_toArray, List.set_cons_zero, List.set_cons_succ]
    refine take_do (i := 2) (v := (.pointer (some ⟨cb, 3, none⟩))) rfl (by kernel_rfl) (by kernel_rfl) (by kernel_rfl) (fun _ _ _ h => h) (by rfl) ?_ (by assumption) ?_
    · intro w hSw
      go_simp
    simp only [Act.put, List.setIfInBounds_toArray, List.set_cons_zero, List.set_cons_succ]
    refine take_do (i := 3) (v := (.pointer (some ⟨cb, 3, none⟩))) rfl (by kernel_rfl) (by kernel_rfl) (by kernel_rfl) (fun _ _ _ h => h) (by rfl) ?_ (by assumption) ?_
    · intro w hSw
      go_simp
    simp only [Act.put, List.setIfInBounds_toArray, List.set_cons_zero, List.set_cons_succ]
    refine take_do (i := 4) (v := (.slice (some ⟨tg, 0, none⟩) n n)) rfl (by kernel_rfl) (by kernel_rfl) (by kernel_rfl) (fun _ _ _ h => h) (by rfl) ?_ (by assumption) ?_
    · intro w hSw
      obtain ⟨⟨r0, r1, r2, r3, r4, r5, r6⟩, _⟩ := rowN7c (nrow_below H.out.row hSw)
      go_simp
    simp only [Act.put, List.setIfInBounds_toArray, List.set_cons_zero, List.set_cons_succ]
    refine take_do (i := 5) (v := (.pointer (some ⟨W.heap.size, 3, none⟩))) rfl (by kernel_rfl) (by kernel_rfl) (by kernel_rfl) (fun _ _ _ h => h) (by rfl) ?_ (by assumption) ?_
    · intro w hSw
      go_simp
    simp only [Act.put, List.setIfInBounds_toArray, List.set_cons_zero, List.set_cons_succ]
    refine take_do (i := 6) (v := (.int .i64 d)) rfl (by kernel_rfl) (by kernel_rfl) (by kernel_rfl) (fun _ _ _ h => h) (by rfl) ?_ (by assumption) ?_
    · intro w hSw
      obtain ⟨⟨a0, a1, a2, a3⟩, _⟩ := rowN4 (nrow_below R1.out hSw)
      go_simp
    simp only [Act.put, List.setIfInBounds_toArray, List.set_cons_zero, List.set_cons_succ]
    refine take_do (i := 7) (v := (.pointer (some ⟨tg, d, none⟩))) rfl (by kernel_rfl) (by kernel_rfl) (by kernel_rfl) (fun _ _ _ h => h) (by rfl) ?_ (by assumption) ?_
    · intro w hSw
      go_simp
    simp only [Act.put, List.setIfInBounds_toArray, List.set_cons_zero, List.set_cons_succ]
    refine take_do (i := 8) (v := (.int .i64 (T d))) rfl (by kernel_rfl) (by kernel_rfl) (by kernel_rfl) (fun _ _ _ h => h) (by rfl) ?_ (by assumption) ?_
    · intro w hSw
      have tt := (H.out.t.below hSw).cell (i := d) (by omega)
      go_simp
    simp only [Act.put, List.setIfInBounds_toArray, List.set_cons_zero, List.set_cons_succ]
    refine take_do (i := 10) (v := (.pointer (some ⟨cb, 0, none⟩))) rfl (by kernel_rfl) (by kernel_rfl) (by kernel_rfl) (fun _ _ _ h => h) (by rfl) ?_ (by assumption) ?_
    · intro w hSw
      go_simp
    simp only [Act.put, List.setIfInBounds_toArray, List.set_cons_zero, List.set_cons_succ]
    refine take_do (i := 11) (v := (.pointer (some ⟨cb, 0, none⟩))) rfl (by kernel_rfl) (by kernel_rfl) (by kernel_rfl) (fun _ _ _ h => h) (by rfl) ?_ (by assumption) ?_
    · intro w hSw
      go_simp
    simp only [Act.put, List.setIfInBounds_toArray, List.set_cons_zero, List.set_cons_succ]
    refine take_do (i := 12) (v := (.pointer (some ⟨cb, 3, none⟩))) rfl (by kernel_rfl) (by kernel_rfl) (by kernel_rfl) (fun _ _ _ h => h) (by rfl) ?_ (by assumption) ?_
    · intro w hSw
      go_simp
    simp only [Act.put, List.setIfInBounds_toArray, List.set_cons_zero, List.set_cons_succ]
    refine take_do (i := 13) (v := (.pointer (some ⟨cb, 3, none⟩))) rfl (by kernel_rfl) (by kernel_rfl) (by kernel_rfl) (fun _ _ _ h => h) (by rfl) ?_ (by assumption) ?_
    · intro w hSw
      go_simp
    simp only [Act.put, List.setIfInBounds_toArray, List.set_cons_zero, List.set_cons_succ]
    refine take_do (i := 14) (v := (.slice (some ⟨tg, 0, none⟩) n n)) rfl (by kernel_rfl) (by kernel_rfl) (by kernel_rfl) (fun _ _ _ h => h) (by rfl) ?_ (by assumption) ?_
    · intro w hSw
      obtain ⟨⟨r0, r1, r2, r3, r4, r5, r6⟩, _⟩ := rowN7c (nrow_below H.out.row hSw)
      go_simp
    simp only [Act.put, List.setIfInBounds_toArray, List.set_cons_zero, List.set_cons_succ]
    refine take_do (i := 15) (v := (.pointer (some ⟨W.heap.size, 2, none⟩))) rfl (by kernel_rfl) (by kernel_rfl) (by kernel_rfl) (fun _ _ _ h => h) (by rfl) ?_ (by assumption) ?_
    · intro w hSw
      go_simp
    simp only [Act.put, List.setIfInBounds_toArray, List.set_cons_zero, List.set_cons_succ]
    refine take_do (i := 16) (v := (.int .i64 a)) rfl (by kernel_rfl) (by kernel_rfl) (by kernel_rfl) (fun _ _ _ h => h) (by rfl) ?_ (by assumption) ?_
    · intro w hSw
      obtain ⟨⟨a0, a1, a2, a3⟩, _⟩ := rowN4 (nrow_below R1.out hSw)
      go_simp
    simp only [Act.put, List.setIfInBounds_toArray, List.set_cons_zero, List.set_cons_succ]
    refine take_do (i := 17) (v := (.pointer (some ⟨tg, a, none⟩))) rfl (by kernel_rfl) (by kernel_rfl) (by kernel_rfl) (fun _ _ _ h => h) (by rfl) ?_ (by assumption) ?_
    · intro w hSw
      go_simp
    simp only [Act.put, List.setIfInBounds_toArray, List.set_cons_zero, List.set_cons_succ]
    refine take_do (i := 18) (v := (.int .i64 (T a))) rfl (by kernel_rfl) (by kernel_rfl) (by kernel_rfl) (fun _ _ _ h => h) (by rfl) ?_ (by assumption) ?_
    · intro w hSw
      have tt := (H.out.t.below hSw).cell (i := a) (by omega)
      go_simp
    simp only [Act.put, List.setIfInBounds_toArray, List.set_cons_zero, List.set_cons_succ]
    refine take_do (i := 19) (v := (.pointer (some ⟨cb, 0, none⟩))) rfl (by kernel_rfl) (by kernel_rfl) (by kernel_rfl) (fun _ _ _ h => h) (by rfl) ?_ (by assumption) ?_
    · intro w hSw
      go_simp
    simp only [Act.put, List.setIfInBounds_toArray, List.set_cons_zero, List.set_cons_succ]
    refine take_do (i := 20) (v := (.pointer (some ⟨cb, 0, none⟩))) rfl (by kernel_rfl) (by kernel_rfl) (by kernel_rfl) (fun _ _ _ h => h) (by rfl) ?_ (by assumption) ?_
    · intro w hSw
      go_simp
    simp only [Act.put, List.setIfInBounds_toArray, List.set_cons_zero, List.set_cons_succ]
    refine take_do (i := 21) (v := (.pointer (some ⟨cb, 0, none⟩))) rfl (by kernel_rfl) (by kernel_rfl) (by kernel_rfl) (fun _ _ _ h => h) (by rfl) ?_ (by assumption) ?_
    · intro w hSw
      go_simp
    simp only [Act.put, List.setIfInBounds_toArray, List.set_cons_zero, List.set_cons_succ]
    refine take_do (i := 22) (v := (.pointer (some ⟨cb, 0, none⟩))) rfl (by kernel_rfl) (by kernel_rfl) (by kernel_rfl) (fun _ _ _ h => h) (by rfl) ?_ (by assumption) ?_
    · intro w hSw
      go_simp
    simp only [Act.put, List.setIfInBounds_toArray, List.set_cons_zero, List.set_cons_succ]
    refine take_do (i := 23) (v := (.slice (some ⟨sg, 0, none⟩) s.n sk)) rfl (by kernel_rfl) (by kernel_rfl) (by kernel_rfl) (fun _ _ _ h => h) (by rfl) ?_ (by assumption) ?_
    · intro w hSw
      obtain ⟨⟨r0, r1, r2, r3, r4, r5, r6⟩, _⟩ := rowN7c (nrow_below H.out.row hSw)
      go_simp
    simp only [Act.put, List.setIfInBounds_toArray, List.set_cons_zero, List.set_cons_succ]
    refine take_do (i := 24) (v := (.int .i64 i)) rfl (by kernel_rfl) (by kernel_rfl) (by kernel_rfl) (fun _ _ _ h => h) (by rfl) ?_ (by assumption) ?_
    · intro w hSw
      go_simp
    simp only [Act.put, List.setIfInBounds_toArray, List.set_cons_zero, List.set_cons_succ]
    refine take_do (i := 25) (v := (.pointer (some ⟨sg, i, none⟩))) rfl (by kernel_rfl) (by kernel_rfl) (by kernel_rfl) (fun _ _ _ h => h) (by rfl) ?_ (by assumption) ?_
    · intro w hSw
      go_simp
    simp only [Act.put, List.setIfInBounds_toArray, List.set_cons_zero, List.set_cons_succ]
    refine take_do (i := 26) (v := (.int .i64 (s.T i))) rfl (by kernel_rfl) (by kernel_rfl) (by kernel_rfl) (fun _ _ _ h => h) (by rfl) ?_ (by assumption) ?_
    · intro w hSw
      obtain ⟨sg', esg, cs⟩ := (H2.out.t.below (H.out.old.trans (hSw.mono H.out.old.size))).at1 his
      cases esg
      go_simp
    simp only [Act.put, List.setIfInBounds_toArray, List.set_cons_zero, List.set_cons_succ]
    refine take_do (i := 27) (v := (.int .i64 (max (T a) (s.T i)))) rfl (by kernel_rfl) (by kernel_rfl) (by kernel_rfl) (fun _ _ _ h => h) (by rfl) ?_ (by assumption) ?_
    · intro w hSw
      have h2 := hbo
      go_simp
    simp only [Act.put, List.setIfInBounds_toArray, List.set_cons_zero, List.set_cons_succ]
    refine take_call (i := 9) rfl (by kernel_rfl) (fun K2 hK => ?_)
    go_simp
    refine (opp_any (T d) _ hdb).mono ?_
    rintro e w5 ⟨rfl, hw⟩
    rw [hw]
    clear hw w5
    go_wp2_with fail
    refine hK.out _ _ hHeld (fun hHeld2 => ?_)
    clear hK hHeld
    have hHeld := hHeld2
    clear hHeld2
    refine take_do (i := 28) (v := (.int .i64 (min (1 - T d) (max (T a) (s.T i))))) rfl (by kernel_rfl) (by kernel_rfl) (by kernel_rfl) (fun _ _ _ h => h) (by rfl) ?_ (by assumption) ?_
    · intro w hSw
      have h2 := hba
      go_simp
    simp only [Act.put, List.setIfInBounds_toArray, List.set_cons_zero, List.set_cons_succ]
    refine take_do (i := 29) (v := (.int .i64 (min (1 - T d) (max (T a) (s.T i))))) rfl (by kernel_rfl) (by kernel_rfl) (by kernel_rfl) (fun _ _ _ h => h) (by rfl) ?_ (by assumption) ?_
    · intro w hSw
      go_simp
    simp only [Act.put, List.setIfInBounds_toArray, List.set_cons_zero, List.set_cons_succ]
    refine wpAnyH_done (by kernel_rfl) ?_ _
    go_wp2_with fail
    go_ret
    exact ⟨by rw [HV.out]; rfl, ⟨_, _, by rw [HC.out, HM.out.1, HM.out.2]; exact H.out.below hHeld⟩, OnlyC.of_below (BW.out.trans (hHeld.mono BW.out.size))⟩
  · have HV : Hid (Cy.vl b i s.T s.C T (F 0) = if b.b < Cy.ct b i s.C T then 1 else 0) := Cy.vl_7 hk
    have HM : Hid (Cy.lm b m = m ∧ Cy.lf b F = F) := by show _ ∧ _; unfold Cy.lm Cy.lf; simp [hk]
    have HLA := Lib.hid (Cy.look_a hp (by omega))
    have HKK := Lib.hid hk
    have q1 : (b.kind == 1) = false := by rw [hk]; rfl
    have q2 : (b.kind == 2) = false := by rw [hk]; rfl
    have q3 : (b.kind == 3) = false := by rw [hk]; rfl
    have q4 : (b.kind == 4) = false := by rw [hk]; rfl
    have q5 : (b.kind == 5) = false := by rw [hk]; rfl
    have q6 : (b.kind == 6) = false := by rw [hk]; rfl
    clear hm hp hk
    go_enter Tryz.func75, Tryz.ntmps75
    go_wp2_with fail
    rw [← HW.out]
    clear HW x0 x1 x2 x3
    obtain ⟨⟨y0, y1, y2, y3⟩, _⟩ := rowN4 R1.out
    go_wp2_with fail
    refine (delayed_any b i w W1 H.out H2.out hn hst hb hi HKK.out HLA.out).mono ?_
    rintro e w2 ⟨he, hc, ho⟩
    rw [← HV.out] at he
    subst he
    have HY := Lib.hid hc
    have HO := Lib.hid ho
    clear hc ho
    go_wp2_with fail
    go_ret
    exact ⟨rfl, ⟨_, _, by rw [HM.out.1, HM.out.2]; exact HY.out⟩, (OnlyC.of_below BW.out).trans HO.out⟩
end Go.Proofs.YtogfjomfhenhfaaGreatDoor
