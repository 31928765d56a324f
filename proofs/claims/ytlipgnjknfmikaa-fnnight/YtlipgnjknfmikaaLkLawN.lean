/-
  The law FnNight.
-/
import Derived.Test.YtlipgnjknfmikaaLkS1
import Derived.Test.YtlipgnjknfmikaaLkDn
import Derived.Test.YtlipgnjknfmikaaLwAt
namespace Go.Proofs.Ytlipgnjknfmikaa
open Go.RowKit Go.Deep

theorem lwSame_any (x : Nat) (w : World) :
    Calls Try.prog 12 #[.float .f64 x, .float .f64 x] w fun e w' => e = .returned (.bool true) ∧ w' = w := by
  by_cases h1 : FloatKind.f64.format.order x x = some .eq
  · by_cases h2 : FloatKind.f64.format.order x 0 = some .eq
    · obtain ⟨r, hr⟩ := Fl.div_zero x h2
      have hq := fun (wx : World) => run_float_arith (P := Try.prog) (w := wx) .quo 27 .f64 4607182418800017408 x r hr
      clear hr
      go_enter Try.func12, Try.ntmps12
      go_wp2
      go_ret
      exact ⟨rfl, rfl⟩
    · go_enter Try.func12, Try.ntmps12
      go_wp2
      go_ret
      exact ⟨rfl, rfl⟩
  · have h1' : (FloatKind.f64.format.order x x != some .eq) = true := by simpa using h1
    go_enter Try.func12, Try.ntmps12
    go_wp2
    go_ret
    exact ⟨rfl, rfl⟩
theorem lwMeas_any (x : Nat) (w : World) :
    Calls Try.prog 16 #[.float .f64 x] w fun e w' => e = .returned (.bool (Fl.measB x)) ∧ w' = w := by
  unfold Fl.measB
  go_enter Try.func16, Try.ntmps16
  go_wp2
  · go_ret
    exact ⟨by simp_all, rfl⟩
  · go_ret
    exact ⟨by simp_all, rfl⟩
/-- An append behind a guard that lets it be done. -/
theorem wpList_append_when {P : Program} {w : World} {ops : Array Oper} {rest : List Oper} {o : Oper} {a : Act} {Q : Exit → Act → World → Prop} (hgd : Region.wanted o (yielded ops a.tmps) = true) (s x : Operand) (t : TypeId)
    (ho : o.op = .call { callee := .builtin .append, args := #[s, x], argTypes := #[t, t] })
    (base : Nat) (e : TypeId) (i : TypeInfo) (z : Value) (size bytes : Nat) (ht : P.underlying t = some (.slice e)) (hi : P.info? e = some i) (hz : i.zero = some z)
    (hsize : i.size = size) (hby : i.bytes = bytes) (hzs : z.cells.size = size) (hsz : 0 < size)
    (v : Value) (n : Nat) (xs : List Value) (hs : a.eval s = v) (hown : w.ownsRow base e size v n xs)
    (ad : Addr) (m c : Nat) (news : List Value) (hx : a.eval x = .slice (some ad) m c) (hl : news.length = m * size) (hnews : ∀ j u, news[j]? = some u → w.cell? (ad.add j) = some u) (h1 : ∀ u ∈ news, u.oneCell' = true)
    (h63 : n + m ≤ maxLen) (hbytes : (n + m) * bytes ≤ 140737488355328) (hbase : base ≤ w.heap.size)
    (h : ∀ v' w', w'.ownsRow base e size v' (n + m) (xs ++ news) → w.grownBy w' v.ownBlock → (v' = .slice none 0 0 ↔ v = .slice none 0 0 ∧ m = 0) → wpList P ops Q rest (a.put o.dst v') w') : wpList P ops Q (o :: rest) a w :=
  wpList_step fun K hK => by
    rw [if_pos hgd]
    exact wp_append_own w s x t ho base e i z size bytes ht hi hz hsize hby hzs hsz v n xs hs hown ad m c news hx hl hnews h1 h63 hbytes hbase fun v' w' h2 h3 h4 => hK _ _ (h v' w' h2 h3 h4)
theorem rowO_cells {g off : Nat} {zs : List Nat} {W : World} {o : Obj} (h : ∀ i, i < zs.length → W.cell? ⟨g, off + i, none⟩ = some (.float .f64 (Fl.el zs i))) (j : Nat) (u : Value) (hj : (zs.map (Value.float .f64))[j]? = some u) : (W.alloc o).cell? ((⟨g, off, none⟩ : Addr).add j) = some u := by
  rw [List.getElem?_map] at hj
  obtain ⟨x, hx, rfl⟩ := Option.map_eq_some_iff.1 hj
  have hl : j < zs.length := by
    rcases Nat.lt_or_ge j zs.length with h | h
    · exact h
    · rw [List.getElem?_eq_none h] at hx; cases hx
  rw [Addr.add_lit, World.cell?_alloc_lt _ _ _ (World.block_lt_of_cell? _ _ (h j hl)), h j hl]
  unfold Fl.el
  rw [List.getD_eq_getElem?_getD, hx]; rfl
theorem w4_el (f : Nat → Nat) (i : Nat) : ∀ j, j < (Lk.w4 f i).length → Fl.el (Lk.w4 f i) j = f (i + j) := fun j hj => by
  have hj : j < 4 := hj
  match j, hj with
  | 0, _ => rfl
  | 1, _ => rfl
  | 2, _ => rfl
  | 3, _ => rfl
theorem isum4_any (g cap : Nat) (f : Nat → Nat) (i : Nat) (w : World) (hc : ∀ j, j < (Lk.w4 f i).length → w.cell? ⟨g, j, none⟩ = some (.float .f64 (Fl.el (Lk.w4 f i) j))) :
    Calls Try.prog 14 #[.slice (some ⟨g, 0, none⟩) 4 cap] w fun e w' => e = .returned (.float .f64 (Fl.sumL (Lk.w4 f i))) ∧ w' = w := by
  rw [← sumTo_all]
  exact implSum_any g 4 cap (Lk.w4 f i) w rfl hc (by omega)

set_option linter.unusedSimpArgs false in
set_option maxRecDepth 100000 in
set_option maxHeartbeats 8000000 in
theorem night_law (w : World) (a : Option Addr) (len cap : Nat) (h : Bytes a len w) (_u : len ≤ 9223372036854775807) (a' : Option Addr) (len' cap' : Nat) (h' : Bytes a' len' w) (_u' : len' ≤ 9223372036854775807) :
    Calls Try.prog 3 #[.slice a len cap, .slice a' len' cap'] w fun e w' => e = .returned (.bool true) ∧ Below w.heap.size w w' := by
  clear _u _u'
  by_cases hb1 : 1048576 < len
  · have hz : (1048576 : Int) < (len : Int) := by omega
    clear h h'
    go_enter Try.func3, Try.ntmps3
    go_wp2
    go_ret
    exact ⟨rfl, Below.refl _ _⟩
  have hz1' : ¬ (1048576 : Int) < (len : Int) := by omega
  by_cases hb2 : 1048576 < len'
  · have hz : (1048576 : Int) < (len' : Int) := by omega
    clear h h'
    go_enter Try.func3, Try.ntmps3
    go_wp2
    go_ret
    exact ⟨rfl, Below.refl _ _⟩
  have hz2' : ¬ (1048576 : Int) < (len' : Int) := by omega
  have H := Lib.hid h
  have H' := Lib.hid h'
  clear h h'
  obtain ⟨i0, hi, hz0, hz1, hz2⟩ := info_parts info_float
  go_enter Try.func3, Try.ntmps3
  go_wp2_with fail
  refine (drawNL_any a len cap w H.out (by omega)).mono ?_
  rintro e wd ⟨v, zs, rfl, g, cp, rfl, hcp, hz4, hF, hgl, hB⟩
  have HF := Lib.hid hF
  have HB := Lib.hid hB
  clear hF hB
  by_cases hn4 : 400 < zs.length
  · have hz : (400 : Int) < (zs.length : Int) := by omega
    go_wp2_with fail
    go_ret
    exact ⟨rfl, HB.out⟩
  have hnz : ¬ (400 : Int) < (zs.length : Int) := by omega
  have hn : zs.length ≤ 400 := by omega
  clear hn4
  have HCD : Hid (∀ i, i < zs.length → wd.cell? ⟨g, 0 + i, none⟩ = some (.float .f64 (Fl.el zs i))) := fun i hi => by
    obtain ⟨g2, e, hc⟩ := HF.out.at_ hi
    cases e; rw [Nat.zero_add]; exact hc
  have HN1 := Lib.hid (rowO_cells (o := .cells #[] 27) HCD.out)
  go_wp2_with (at_builtin; refine wpList_append_own _ rfl _ _ 23 rfl wd.heap.size 27 i0 (.float .f64 0) 1 8 Try.underlying23 hi hz0 hz1 hz2 rfl (by decide) _ _ _ rfl ((own_start wd).1) ⟨g, 0, none⟩ zs.length cp (zs.map (Value.float .f64)) rfl (by simp) HN1.out (one_cells zs) (len_max zs hn) (len_bytes zs hn) (alloc_le wd) ?_)
  intro v1 w1 hown hgrow hnil
  have HP1 : Hid (Own wd.heap.size v1 zs w1 ∧ Below wd.heap.size wd w1) := own_all rfl (own_start wd) ((Below.refl _ _).alloc (Nat.le_refl _) _) hgrow (by simpa using hown) (by simpa using hnil)
  clear hown hgrow hnil HN1
  obtain ⟨g1, c1, rfl, hg1, hh1, hc1⟩ := HP1.out.1.form
  have HC1 := Lib.hid hc1
  have HB1 := Lib.hid (HB.out.trans (HP1.out.2.mono HB.out.size))
  clear hc1
  go_wp2_with fail
  refine (iNightAt_any _ _ _ (Fl.el zs) _ (own_at HC1.out) hn).mono ?_
  rintro e w2 ⟨rfl, hb⟩
  have HBX := Lib.hid (HP1.out.2.trans (hb.mono HP1.out.2.size))
  have HB2 := Lib.hid (HB.out.trans (HBX.out.mono HB.out.size))
  have HF2 := Lib.hid (HF.out.below HBX.out)
  clear hb HC1 HP1 HB1
  go_wp2_with fail
  refine (sNightAt_any _ _ _ (Fl.el zs) _ HF2.out hcp hn).mono ?_
  rintro e w3 ⟨rfl, hww⟩
  subst hww
  have hne : ((Lk.best (Fl.el zs) zs.length).1 != (Lk.best (Fl.el zs) zs.length).1) = false := by simp
  clear HB HF HCD hg1 hh1 hgl HBX
  have HB := HB2
  have HF := HF2
  clear HB2 HF2
  have HCD : Hid (∀ i, i < zs.length → w3.cell? ⟨g, 0 + i, none⟩ = some (.float .f64 (Fl.el zs i))) := fun i hi => by
    obtain ⟨g2, e, hc⟩ := HF.out.at_ hi
    cases e; rw [Nat.zero_add]; exact hc
  rcases Lk.best_f (Fl.el zs) zs.length with ⟨hbe, _⟩ | ⟨i, hi4, hm, hbe, hle⟩
  · rw [hbe] at hne ⊢
    have hl0 : Lk.lineW (Fl.el zs) zs.length = 0 := by unfold Lk.lineW; rw [hbe]; exact Lk.zero_four
    have HN4 := Lib.hid (rowO_cells (o := .cells #[] 27) HCD.out)
    go_wp2_with (at_builtin; refine wpList_append_own _ rfl _ _ 23 rfl w3.heap.size 27 i0 (.float .f64 0) 1 8 Try.underlying23 hi hz0 hz1 hz2 rfl (by decide) _ _ _ rfl ((own_start w3).1) ⟨g, 0, none⟩ zs.length cp (zs.map (Value.float .f64)) rfl (by simp) HN4.out (one_cells zs) (len_max zs hn) (len_bytes zs hn) (alloc_le w3) ?_)
    intro v4 w4 hown hgrow hnil
    have HP4 : Hid (Own w3.heap.size v4 zs w4 ∧ Below w3.heap.size w3 w4) := own_all rfl (own_start w3) ((Below.refl _ _).alloc (Nat.le_refl _) _) hgrow (by simpa using hown) (by simpa using hnil)
    clear hown hgrow hnil HN4
    obtain ⟨g4, c4, rfl, hg4, hh4, hc4⟩ := HP4.out.1.form
    have HC4 := Lib.hid hc4
    have HB4 := Lib.hid (HB.out.trans (HP4.out.2.mono HB.out.size))
    clear hc4
    go_wp2_with fail
    refine (iNightLine_any _ _ _ (Fl.el zs) _ (own_at HC4.out) hn).mono ?_
    rintro e w4b ⟨rfl, hb⟩
    have HBZ := Lib.hid (HB4.out.trans (hb.mono HB4.out.size))
    clear hb
    rw [hl0]
    clear hl0
    go_wp2_with fail
    refine (lwSame_any _ _).mono ?_
    rintro e w4c ⟨rfl, hww⟩
    subst hww
    go_wp2_with fail
    go_ret
    exact ⟨rfl, HBZ.out⟩
  · have hli := (Lk.line_some (Fl.el zs) zs.length).1
    rw [hbe] at hne hli ⊢
    have hq := fun (wx : World) => run_float_arith (P := Try.prog) (w := wx) .quo 27 .f64 _ _ _ hli
    unfold Lk.four at hq
    have HLE := Lib.hid hle
    clear hli hle hbe hm
    have hi0 : (0 : Int) ≤ (i : Int) := by omega
    have hnlt : ¬ (i : Int) < 0 := by omega
    have hic : (i : Int) + 4 ≤ (cp : Int) := by omega
    have HC4 : Hid (∀ j, j < (Lk.w4 (Fl.el zs) i).length → w3.cell? ⟨g, i + j, none⟩ = some (.float .f64 (Fl.el (Lk.w4 (Fl.el zs) i) j))) := fun j hj => by
      have hj4 : j < 4 := hj
      rw [w4_el _ _ j hj]
      have := HCD.out (i + j) (by omega)
      rwa [Nat.zero_add] at this
    have HN5 := Lib.hid (rowO_cells (o := .cells #[] 27) HC4.out)
    have he5 : i + 4 - i = 4 := by omega
    have HE5 := Lib.hid he5
    clear he5
    go_wp2_with (at_builtin; refine wpList_append_own _ rfl _ _ 23 rfl w3.heap.size 27 i0 (.float .f64 0) 1 8 Try.underlying23 hi hz0 hz1 hz2 rfl (by decide) _ _ _ rfl ((own_start w3).1) ⟨g, i, none⟩ (i + 4 - i) (cp - i) ((Lk.w4 (Fl.el zs) i).map (Value.float .f64)) rfl (by rw [HE5.out]; rfl) HN5.out (one_cells _) (by rw [HE5.out]; exact len_max (Lk.w4 (Fl.el zs) i) (by show 4 ≤ 400; omega)) (by rw [HE5.out]; exact len_bytes (Lk.w4 (Fl.el zs) i) (by show 4 ≤ 400; omega)) (alloc_le w3) ?_)
    intro v5 w5 hown hgrow hnil
    have hown2 : w5.ownsRow w3.heap.size 27 1 v5 4 ((Lk.w4 (Fl.el zs) i).map (Value.float .f64)) := by first | exact hown | simpa using hown | (rw [HE5.out] at hown; simpa using hown)
    have HP5 : Hid (Own w3.heap.size v5 (Lk.w4 (Fl.el zs) i) w5 ∧ Below w3.heap.size w3 w5) := own_all rfl (own_start w3) ((Below.refl _ _).alloc (Nat.le_refl _) _) hgrow hown2 (by simpa using hnil)
    clear hown hown2 hgrow hnil HN5
    obtain ⟨g5, c5, rfl, hg5, hh5, hc5⟩ := HP5.out.1.form
    have HC5 := Lib.hid hc5
    have HB5 := Lib.hid (HB.out.trans (HP5.out.2.mono HB.out.size))
    clear hc5
    go_wp2_with fail
    refine (isum4_any _ _ (Fl.el zs) i _ HC5.out).mono ?_
    rintro e w6 ⟨rfl, hww⟩
    subst hww
    replace HF := Lib.hid (HF.out.below HP5.out.2)
    replace HB := HB5
    clear HC4 HC5 HP5 hg5 hh5 HCD HB5
    have HCD : Hid (∀ i, i < zs.length → w6.cell? ⟨g, 0 + i, none⟩ = some (.float .f64 (Fl.el zs i))) := fun i hi => by
      obtain ⟨g2, e, hc⟩ := HF.out.at_ hi
      cases e; rw [Nat.zero_add]; exact hc
    have hm3 : (zs.length : Int) - 3 ≤ 400 := by omega
    go_wp2_with fail
    refine (lwAt_any a' len' cap' 0 _ _ (H'.out.below HB.out) (by omega) (by omega) (by omega) (by omega)).mono ?_
    rintro e w7 ⟨⟨kz, rfl, k0, k1, k2⟩, hww⟩
    subst hww
    obtain ⟨k, rfl⟩ : ∃ k : Nat, kz = (k : Int) := ⟨kz.toNat, by omega⟩
    have k3 := k2 (by omega)
    have hk4 : k + 4 ≤ zs.length := by omega
    have hkc : (k : Int) + 4 ≤ (cp : Int) := by omega
    clear k2 k3
    have HCK : Hid (∀ j, j < (Lk.w4 (Fl.el zs) k).length → w7.cell? ⟨g, k + j, none⟩ = some (.float .f64 (Fl.el (Lk.w4 (Fl.el zs) k) j))) := fun j hj => by
      have hj4 : j < 4 := hj
      rw [w4_el _ _ j hj]
      have := HCD.out (k + j) (by omega)
      rwa [Nat.zero_add] at this
    go_wp2_with fail
    rw [show k + 4 - k = 4 by omega]
    go_loop [10] (fun iv => ∃ j : Nat, j ≤ 4 ∧ iv = .int .i64 j ∧ Hid (∀ t, t < j → Fl.measB (Fl.el zs (k + t)) = true)) (fun iv => 4 - (intOf iv).toNat)
    case atStart => exact ⟨0, Nat.zero_le _, rfl, fun t ht => absurd ht (Nat.not_lt_zero _)⟩
    case round =>
      obtain ⟨j, hj, rfl, hM⟩ := hrel
      by_cases hlt : j < 4
      · have hltz : (j : Int) < 4 := by omega
        have hj0 : (0 : Int) ≤ (j : Int) := by omega
        have c0 := HCD.out (k + j) (by omega)
        rw [Nat.zero_add] at c0
        cases hmj : Fl.measB (Fl.el zs (k + j))
        · go_wp2_with fail
          refine (lwMeas_any _ _).mono ?_
          rintro e w8 ⟨rfl, hww⟩
          subst hww
          have HN9 := Lib.hid (rowO_cells (o := .cells #[] 27) HCD.out)
          go_wp2_with (at_builtin; refine wpList_append_own _ rfl _ _ 23 rfl w8.heap.size 27 i0 (.float .f64 0) 1 8 Try.underlying23 hi hz0 hz1 hz2 rfl (by decide) _ _ _ rfl ((own_start w8).1) ⟨g, 0, none⟩ zs.length cp (zs.map (Value.float .f64)) rfl (by simp) HN9.out (one_cells zs) (len_max zs hn) (len_bytes zs hn) (alloc_le w8) ?_)
          intro v9 w9 hown hgrow hnil
          have HP9 : Hid (Own w8.heap.size v9 zs w9 ∧ Below w8.heap.size w8 w9) := own_all rfl (own_start w8) ((Below.refl _ _).alloc (Nat.le_refl _) _) hgrow (by simpa using hown) (by simpa using hnil)
          clear hown hgrow hnil HN9
          obtain ⟨g9, c9, rfl, hg9, hh9, hc9⟩ := HP9.out.1.form
          have HC9 := Lib.hid hc9
          have HB9 := Lib.hid (HB.out.trans (HP9.out.2.mono HB.out.size))
          clear hc9
          go_wp2_with fail
          refine (iNightLine_any _ _ _ (Fl.el zs) _ (own_at HC9.out) hn).mono ?_
          rintro e w9b ⟨rfl, hb⟩
          have HBZ := Lib.hid (HB9.out.trans (hb.mono HB9.out.size))
          clear hb
          go_wp2_with fail
          refine (lwSame_any _ _).mono ?_
          rintro e w9c ⟨rfl, hww⟩
          subst hww
          go_wp2_with fail
          go_ret
          exact ⟨rfl, HBZ.out⟩
        · go_wp2_with fail
          refine (lwMeas_any _ _).mono ?_
          rintro e w8 ⟨rfl, hww⟩
          subst hww
          go_wp2_with fail
          go_round
          case rel => exact ⟨j + 1, by omega, by go_num, fun t ht => by
            by_cases e : t = j
            · subst e; exact hmj
            · exact hM.out t (by omega)⟩
          case measure => simp [intOf]; omega
      · obtain rfl : j = 4 := by omega
        have hmk : Lk.m4 (Fl.el zs) k = true := List.all_eq_true.2 (fun t ht => hM.out t (List.mem_range.1 ht))
        have hord := Fl.le_of_not (Lk.w4_nm (Fl.el zs) i) (Lk.w4_nm (Fl.el zs) k) (HLE.out k hk4 hmk)
        have HOR := Lib.hid hord
        clear hord hmk
        have HNp4 := Lib.hid (rowO_cells (o := .cells #[] 27) HCK.out)
        have hep4 : k + 4 - k = 4 := by omega
        have HEp4 := Lib.hid hep4
        clear hep4
        go_wp2_with (at_builtin; refine wpList_append_own _ rfl _ _ 23 rfl w7.heap.size 27 i0 (.float .f64 0) 1 8 Try.underlying23 hi hz0 hz1 hz2 rfl (by decide) _ _ _ rfl ((own_start w7).1) ⟨g, k, none⟩ 4 (cp - k) ((Lk.w4 (Fl.el zs) k).map (Value.float .f64)) rfl (by rfl) HNp4.out (one_cells _) (by exact len_max (Lk.w4 (Fl.el zs) k) (by show 4 ≤ 400; omega)) (by exact len_bytes (Lk.w4 (Fl.el zs) k) (by show 4 ≤ 400; omega)) (alloc_le w7) ?_)
        intro vp4 wp4 hown hgrow hnil
        have hown2 : wp4.ownsRow w7.heap.size 27 1 vp4 4 ((Lk.w4 (Fl.el zs) k).map (Value.float .f64)) := by first | exact hown | simpa using hown | (rw [HEp4.out] at hown; simpa using hown)
        have HPp4 : Hid (Own w7.heap.size vp4 (Lk.w4 (Fl.el zs) k) wp4 ∧ Below w7.heap.size w7 wp4) := own_all rfl (own_start w7) ((Below.refl _ _).alloc (Nat.le_refl _) _) hgrow hown2 (by simpa using hnil)
        clear hown hown2 hgrow hnil HNp4
        obtain ⟨gp4, cp4, rfl, hgp4, hhp4, hcp4⟩ := HPp4.out.1.form
        have HCp4 := Lib.hid hcp4
        have HBp4 := Lib.hid (HB.out.trans (HPp4.out.2.mono HB.out.size))
        clear hcp4
        go_wp2_with fail
        refine (isum4_any _ _ (Fl.el zs) k _ HCp4.out).mono ?_
        rintro e wq ⟨rfl, hww⟩
        subst hww
        replace HF := Lib.hid (HF.out.below HPp4.out.2)
        replace HB := HBp4
        clear HCK HCp4 HPp4 hgp4 hhp4 HCD HBp4
        have HCD : Hid (∀ i, i < zs.length → wq.cell? ⟨g, 0 + i, none⟩ = some (.float .f64 (Fl.el zs i))) := fun i hi => by
          obtain ⟨g2, e, hc⟩ := HF.out.at_ hi
          cases e; rw [Nat.zero_add]; exact hc
        rcases HOR.out with hor | hor
        · have HNr := Lib.hid (rowO_cells (o := .cells #[] 27) HCD.out)
          go_wp2_with (at_builtin; refine wpList_append_when rfl _ _ 23 rfl wq.heap.size 27 i0 (.float .f64 0) 1 8 Try.underlying23 hi hz0 hz1 hz2 rfl (by decide) _ _ _ rfl ((own_start wq).1) ⟨g, 0, none⟩ zs.length cp (zs.map (Value.float .f64)) rfl (by simp) HNr.out (one_cells zs) (len_max zs hn) (len_bytes zs hn) (alloc_le wq) ?_)
          intro vr wr hown hgrow hnil
          have HPr : Hid (Own wq.heap.size vr zs wr ∧ Below wq.heap.size wq wr) := own_all rfl (own_start wq) ((Below.refl _ _).alloc (Nat.le_refl _) _) hgrow (by simpa using hown) (by simpa using hnil)
          clear hown hgrow hnil HNr
          obtain ⟨gr, cr, rfl, hgr, hhr, hcr⟩ := HPr.out.1.form
          have HCr := Lib.hid hcr
          have HBr := Lib.hid (HB.out.trans (HPr.out.2.mono HB.out.size))
          clear hcr
          go_wp2_with fail
          refine (iNightLine_any _ _ _ (Fl.el zs) _ (own_at HCr.out) hn).mono ?_
          rintro e wrb ⟨rfl, hb⟩
          have HBZ := Lib.hid (HBr.out.trans (hb.mono HBr.out.size))
          clear hb
          go_wp2_with fail
          refine (lwSame_any _ _).mono ?_
          rintro e wrc ⟨rfl, hww⟩
          subst hww
          go_wp2_with fail
          go_ret
          exact ⟨rfl, HBZ.out⟩
        · have HNs := Lib.hid (rowO_cells (o := .cells #[] 27) HCD.out)
          go_wp2_with (at_builtin; refine wpList_append_when rfl _ _ 23 rfl wq.heap.size 27 i0 (.float .f64 0) 1 8 Try.underlying23 hi hz0 hz1 hz2 rfl (by decide) _ _ _ rfl ((own_start wq).1) ⟨g, 0, none⟩ zs.length cp (zs.map (Value.float .f64)) rfl (by simp) HNs.out (one_cells zs) (len_max zs hn) (len_bytes zs hn) (alloc_le wq) ?_)
          intro vs ws hown hgrow hnil
          have HPs : Hid (Own wq.heap.size vs zs ws ∧ Below wq.heap.size wq ws) := own_all rfl (own_start wq) ((Below.refl _ _).alloc (Nat.le_refl _) _) hgrow (by simpa using hown) (by simpa using hnil)
          clear hown hgrow hnil HNs
          obtain ⟨gs, cs, rfl, hgs, hhs, hcs⟩ := HPs.out.1.form
          have HCs := Lib.hid hcs
          have HBs := Lib.hid (HB.out.trans (HPs.out.2.mono HB.out.size))
          clear hcs
          go_wp2_with fail
          refine (iNightLine_any _ _ _ (Fl.el zs) _ (own_at HCs.out) hn).mono ?_
          rintro e wsb ⟨rfl, hb⟩
          have HBZ := Lib.hid (HBs.out.trans (hb.mono HBs.out.size))
          clear hb
          go_wp2_with fail
          refine (lwSame_any _ _).mono ?_
          rintro e wsc ⟨rfl, hww⟩
          subst hww
          go_wp2_with fail
          go_ret
          exact ⟨rfl, HBZ.out⟩
end Go.Proofs.Ytlipgnjknfmikaa
