/-
  The program's iterators over numbers and bytes.
-/
import Derived.Test.YtmejmpdljckfgaaDoorHsRf
import Derived.Test.YtmejmpdljckfgaaDoorHsRm
import Derived.Test.YtmejmpdljckfgaaDoorHsI1
namespace Go.Proofs.YtmejmpdljckfgaaDoor
open Go.RowKit Go.Shelf Go.Deep

attribute [local go_sem] Oper.semAt_some
/-- What the loop's body keeps. -/
structure KpP (n₀ : Nat) (W W' : World) : Prop where
  bel : Below n₀ W W'
  pts : ∀ (j : Nat) (c : Array Value) (fr : Nat × Nat), W.heap[j]? = some (Obj.cells c 104 fr) → W'.heap[j]? = some (Obj.cells c 104 fr)
theorem KpP.refl (n₀ : Nat) (W : World) : KpP n₀ W W := ⟨Below.refl _ _, fun _ _ _ h => h⟩
theorem KpP.trans {n₀ : Nat} {A B C : World} (h : KpP n₀ A B) (k : KpP n₀ B C) : KpP n₀ A C := ⟨h.bel.trans k.bel, fun j c fr hc => k.pts j c fr (h.pts j c fr hc)⟩
theorem KpP.alloc {n₀ : Nat} {W : World} (o : Obj) (h : n₀ ≤ W.heap.size) : KpP n₀ W (W.alloc o) := ⟨(Below.refl _ _).alloc h _, fun _ _ _ hc => (Below.heap_alloc _ _ _ (Array.getElem?_eq_some_iff.1 hc).1).trans hc⟩
theorem KpP.row {n₀ g n : Nat} {A B : World} {F : Nat → Value} (h : KpP n₀ A B) (hr : A.rowIs g 104 n F) : B.rowIs g 104 n F := by
  obtain ⟨c, h1, h2, h3⟩ := hr
  exact ⟨c, h.pts _ _ _ h1, h2, h3⟩
theorem KpP.set {n₀ g n i : Nat} {T : TypeId} {W : World} {F : Nat → Value} (hr : W.rowIs g T n F) (hT : T ≠ 104) (hg : n₀ ≤ g) (v : Value) : KpP n₀ W (W.setCell ⟨g, i, none⟩ v) := by
  refine ⟨(Below.refl _ _).setCell (p := ⟨g, i, none⟩) hg v, fun j c fr hc => (Below.heap_setCell _ _ _ _ (fun e => ?_)).trans hc⟩
  obtain ⟨c2, h1, _⟩ := hr
  have e' : j = g := e
  subst e'
  rw [h1] at hc
  cases hc
  exact hT rfl
theorem KpP.put {n₀ l : Nat} {W : World} {o : Obj} (o' : Obj) (hl : W.heap[l]? = some o) (ho : o.isCells = false) (hB : n₀ ≤ l) : KpP n₀ W (W.putObj l o') := by
  refine ⟨(LpMv.put (T := 0) (B := n₀) o' hl ho hB).bel (Below.refl _ _) (Nat.le_refl _) ?_, fun j c fr hc => (World.putObj_heap_other (fun e => ?_)).trans hc⟩
  · have := (Array.getElem?_eq_some_iff.1 hl).1; omega
  · subst e
    rw [hl] at hc
    cases hc
    cases ho
theorem KpP.grown {n₀ : Nat} {A B : World} {row : Option Nat} (hg : A.grownBy B row) (hn : n₀ ≤ A.heap.size) (hr : ∀ k, row = some k → n₀ ≤ k ∧ ∀ c fr, A.heap[k]? ≠ some (Obj.cells c 104 fr)) : KpP n₀ A B := by
  refine ⟨(Below.refl _ _).grown hg hn (fun k e => (hr k e).1), fun j c fr hc => (hg.block j (Array.getElem?_eq_some_iff.1 hc).1 (fun e => (hr j e.symm).2 c fr hc)).trans hc⟩
theorem folded_any (d : Int) (D : Nat) (w : World) (h : -2000000 ≤ d ∧ d ≤ 2000000) (e : Hs.fold d = (D : Int)) :
    Calls Tryd.prog 84 #[.int .i64 d] w fun e w' => e = .returned (.int .u64 (D : Nat)) ∧ w' = w := by
  have hw2 : IntKind.i64.wrap (2 * d) = 2 * d := Hs.wrapid (by omega) (by omega)
  have hw3 : IntKind.i64.wrap (-2 * d) = -2 * d := Hs.wrapid (by omega) (by omega)
  have hw4 : IntKind.i64.wrap (-2 * d - 1) = -2 * d - 1 := Hs.wrapid (by omega) (by omega)
  have hf := Hs.fold_in h
  have hw5 : IntKind.u64.wrap (D : Int) = (D : Int) := by simp [IntKind.wrap, IntKind.bits, IntKind.signed]; omega
  by_cases k : d < 0
  · have e1 : -2 * d - 1 = (D : Int) := by rw [← e]; unfold Hs.fold; rw [if_pos k]
    clear e hf
    go_enter Tryd.func84, Tryd.ntmps84
    go_wp2_with fail
    go_ret
    exact ⟨rfl, rfl⟩
  · have e1 : 2 * d = (D : Int) := by rw [← e]; unfold Hs.fold; rw [if_neg k]
    clear e hf
    go_enter Tryd.func84, Tryd.ntmps84
    go_wp2_with fail
    go_ret
    exact ⟨rfl, rfl⟩
set_option maxRecDepth 100000 in
set_option maxHeartbeats 4000000 in
theorem bytes1_in (m l Bn : Nat) (x : Nat) (hx : x ≤ 4000000) (J Jx : List UInt8 → World → Prop) (W : World)
    (hY : ∀ (pre : List UInt8) (y : UInt8) (W1 : World), J pre W1 → pre.length < 10 → YieldAt Fence.wide (m - 1) Tryd.prog l #[.int .u8 (y.toNat : Int)] W1 fun e W' =>
      (e = .returned (.bool true) ∧ J (pre ++ [y]) W' ∧ True) ∨ (e = .returned (.bool false) ∧ Jx (pre ++ [y]) W'))
    (hB : W.cell? ⟨Bn, 0, none⟩ = some (.int .u64 (x : Nat))) (h0 : J [] W) :
    CallsIn Fence.wide m Tryd.prog 85 #[.func (.yield l) #[] #[], .pointer (some ⟨Bn, 0, none⟩)] W fun e W' => (∃ v, e = .returned v) ∧ ((∃ ys, ys = Hs.num x ∧ J ys W') ∨ (∃ pre, True ∧ Jx pre W')) := by
  refine callsIn_of_wp Tryd.func85 rfl trivial ?_ rfl
  simp only [Tryd.ntmps85, List.size_toArray, List.length_cons, List.length_nil, Nat.reduceAdd, Nat.reduceSub, Array.replicate_succ, Array.replicate_zero, List.push_toArray, List.append_toArray, List.nil_append, List.cons_append]
  gi_wp2
  clear hB
  gi_loopw [3] (fun kv wr => ∃ (k : Nat) (pre : List UInt8), k ≤ 4000000 ∧ kv = .int .u64 (k : Nat) ∧ Hid (Hs.num x = pre ++ Hs.num k) ∧ Hid (pre.length + (Hs.num k).length ≤ 4) ∧ Hid (J pre wr))
    (fun kv _ => (intOf kv).toNat)
  case atStart => exact ⟨x, [], hx, rfl, rfl, by show 0 + _ ≤ 4; have := Hs.num_len (n := x) 4 (by omega) (by omega); omega, h0⟩
  case round =>
    obtain ⟨k, pre, hk, rfl, hN, hL, hJ⟩ := hrel
    by_cases hlt : 128 ≤ k
    · have hltz : (128 : Int) ≤ (k : Int) := by omega
      have hm : (k : Int).tmod 128 = ((k % 128 : Nat) : Int) := by rw [Int.tmod_eq_emod_of_nonneg (by omega)]; omega
      have hd : (k : Int).tdiv 128 = ((k / 128 : Nat) : Int) := by rw [Int.tdiv_eq_ediv_of_nonneg (by omega)]; omega
      have hnb := Hs.num_big (n := k) (by omega)
      have HN2 : Hid (Hs.num x = (pre ++ [UInt8.ofNat (k % 128 + 128)]) ++ Hs.num (k / 128)) := by show _ = _; rw [hN.out, hnb]; simp
      have HL2 : Hid ((pre ++ [UInt8.ofNat (k % 128 + 128)]).length + (Hs.num (k / 128)).length ≤ 4) := by show _ ≤ _; have := hL.out; rw [hnb] at this; simp at this ⊢; omega
      obtain ⟨z, hz⟩ : ∃ z, z = k % 128 := ⟨_, rfl⟩
      obtain ⟨y, hy⟩ : ∃ y, y = k / 128 := ⟨_, rfl⟩
      have hz0 : z < 128 := by omega
      have hyk : y < k := by omega
      have hyb : y ≤ 4000000 := by omega
      rw [← hz] at hm HN2 HL2
      rw [← hy] at hd HN2 HL2
      have hb8 : ((UInt8.ofNat (z + 128)).toNat : Int) = (z : Int) + 128 := by simp; omega
      have hu8 : IntKind.u8.wrap (z : Int) = (z : Int) := by simp [IntKind.wrap, IntKind.bits, IntKind.signed]; omega
      have hu9 : IntKind.u8.wrap ((z : Int) + 128) = (z : Int) + 128 := by simp [IntKind.wrap, IntKind.bits, IntKind.signed]; omega
      have HY := hY pre (UInt8.ofNat (z + 128)) wr hJ.out (by have := hL.out; omega)
      rw [hb8] at HY
      obtain ⟨fn, tmps, assign, body, hy', hRd⟩ := HY
      clear hz hy hnb hN hL hb8
      gi_wp2
      refine ⟨fun h => (by cases h), hRd.mono ?_⟩
      rintro e W3 (⟨rfl, hJ3, -⟩ | ⟨rfl, hJx3⟩)
      · have HJ3 := Lib.hid hJ3
        clear hJ3 hJ hRd hy'
        gi_wp2
        go_roundw
        case rel => exact ⟨y, _, hyb, rfl, HN2, HL2, HJ3⟩
        case measure => simp [intOf]; omega
      · gi_wp2
        refine bodyPost_ret (results_none rfl _ _ _) rfl ?_
        exact ⟨⟨_, rfl⟩, .inr ⟨_, trivial, hJx3⟩⟩
    · have hltz : ¬ (128 : Int) ≤ (k : Int) := by omega
      have hns := Hs.num_small (n := k) (by omega)
      have HN2 : Hid (Hs.num x = pre ++ [UInt8.ofNat k]) := by show _ = _; rw [hN.out, hns]
      have hb8 : ((UInt8.ofNat k).toNat : Int) = (k : Int) := by simp; omega
      have hu8 : IntKind.u8.wrap (k : Int) = (k : Int) := by simp [IntKind.wrap, IntKind.bits, IntKind.signed]; omega
      have HY := hY pre (UInt8.ofNat k) wr hJ.out (by have := hL.out; omega)
      rw [hb8] at HY
      obtain ⟨fn, tmps, assign, body, hy', hRd⟩ := HY
      clear hns hN hL hb8
      gi_wp2
      refine ⟨fun h => (by cases h), hRd.mono ?_⟩
      rintro e W3 (⟨rfl, hJ3, -⟩ | ⟨rfl, hJx3⟩)
      · gi_wp2
        go_end0
        exact ⟨⟨_, rfl⟩, .inl ⟨_, HN2.out.symm, hJ3⟩⟩
      · gi_wp2
        go_end0
        exact ⟨⟨_, rfl⟩, .inr ⟨_, trivial, hJx3⟩⟩
theorem numsOf_any (la : Option Addr) (n cap : Nat) (w : World) :
    Calls Tryd.prog 60 #[.slice la n cap] w fun e w' => e = .returned (.func (.func 83) #[] #[.pointer (some ⟨w.heap.size, 0, none⟩)]) ∧ w' = w.alloc (.cells #[.slice la n cap] 59) := by
  go_enter Tryd.func60, Tryd.ntmps60
  go_wp2
  go_ret
  exact ⟨rfl, rfl⟩
theorem bytesOf_any (x : Int) (w : World) :
    Calls Tryd.prog 61 #[.int .u64 x] w fun e w' => e = .returned (.func (.func 85) #[] #[.pointer (some ⟨w.heap.size, 0, none⟩)]) ∧ w' = w.alloc (.cells #[.int .u64 x] 112) := by
  go_enter Tryd.func61, Tryd.ntmps61
  go_wp2
  go_ret
  exact ⟨rfl, rfl⟩
set_option maxRecDepth 100000 in
set_option maxHeartbeats 4000000 in
theorem nums1_in (m l Bl n₀ : Nat) (la : Option Addr) (n cap : Nat) (F : Nat → Int) (hr : Hs.Right F n) (hab : 0 < n → ∀ b, la = some ⟨b, 0, none⟩ → b < n₀) (J : List Nat → World → Prop)
    (W : World) (hn0 : n₀ ≤ W.heap.size) (hJ : ∀ s A B, J s A → ItMv 104 W.heap.size A B → J s B)
    (hY : ∀ (pre : List Nat) (x : Nat) (A : World), J pre A → (pre.length < 600 ∧ x ≤ 4000000) → YieldAt Fence.wide (m - 1) Tryd.prog l #[.int .u64 (x : Nat)] A fun e B => e = .returned (.bool true) ∧ J (pre ++ [x]) B ∧ KpP n₀ A B)
    (hB : W.cell? ⟨Bl, 0, none⟩ = some (.slice la n cap)) (hc : IsAt la (n * 2) F W) (h0 : J [] W) :
    CallsIn Fence.wide m Tryd.prog 83 #[.func (.yield l) #[] #[], .pointer (some ⟨Bl, 0, none⟩)] W fun e W' => (∃ v, e = .returned v) ∧ ∃ xs, xs = Hs.numL F n ∧ J xs W' := by
  have HC := Lib.hid hc
  have HR := Lib.hid hr
  have HAB := Lib.hid hab
  have HJ := Lib.hid hJ
  have HN0 := Lib.hid hn0
  have hn3 := hr.1
  obtain ⟨W1, hW1⟩ : ∃ W1, W1 = W.alloc (.cells #[.int .i64 0, .int .i64 0] 104) := ⟨_, rfl⟩
  have HA0 : Hid (W1.rowIs W.heap.size 104 2 (rowN [.int .i64 (Hs.pa F 0), .int .i64 (Hs.pv F 0)])) := by show World.rowIs _ _ _ _ _; rw [hW1]; exact rowN_alloc W [.int .i64 0, .int .i64 0] _
  have HB0 : Hid (Below n₀ W W1) := by show Below _ _ _; rw [hW1]; exact (Below.refl _ _).alloc hn0 _
  have HJ0 : Hid (J (Hs.numL F 0) W1) := by show J _ _; rw [hW1]; exact hJ _ _ _ h0 (ItMv.below ((Below.refl _ _).alloc (Nat.le_refl _) _))
  have HW := Lib.hid hW1
  have hbl : Bl < W.heap.size := World.block_lt_of_cell? _ _ hB
  have hBq : W1.cell? ⟨Bl, 0, none⟩ = some (.slice la n cap) := by rw [hW1]; exact ((Below.refl W.heap.size W).alloc (Nat.le_refl _) _).cell (p := ⟨Bl, 0, none⟩) hbl |>.trans hB
  rw [hW1] at hBq
  clear hc hr hab hJ hn0 hW1 h0
  refine callsIn_of_wp Tryd.func83 rfl trivial ?_ rfl
  simp only [Tryd.ntmps83, List.size_toArray, List.length_cons, List.length_nil, Nat.reduceAdd, Nat.reduceSub, Array.replicate_succ, Array.replicate_zero, List.push_toArray, List.append_toArray, List.nil_append, List.cons_append]
  gi_wp2
  rw [← HW.out]
  clear HW hBq hB
  gi_loopw [9] (fun iv wr => ∃ (j : Nat), j ≤ n ∧ iv = .int .i64 j ∧ Hid (J (Hs.numL F j) wr) ∧ Hid (Below n₀ W wr) ∧ Hid (W.heap.size ≤ wr.heap.size) ∧ Hid (wr.rowIs W.heap.size 104 2 (rowN [.int .i64 (Hs.pa F j), .int .i64 (Hs.pv F j)])))
    (fun iv _ => n - (intOf iv).toNat)
  case atStart => exact ⟨0, Nat.zero_le _, rfl, HJ0, HB0, HB0.out.size, HA0⟩
  case round =>
    obtain ⟨i, hi, rfl, hJs, hB, hZ, hA⟩ := hrel
    clear HJ0 HB0 HA0
    by_cases hlt : i < n
    · have hltz : (i : Int) < (n : Int) := by omega
      obtain ⟨b, e, k0, k1⟩ := (HC.out.same (w' := wr) (fun b e _ => hB.out.block b (HAB.out (by omega) b e))).at2 hlt
      subst e
      have hi0 := HR.out.in_ hlt
      have hda := HR.out.da hlt
      have hdv := HR.out.dv hlt
      have hfo := Hs.fold_in hdv
      have HNL : Hid (Hs.numL F (i + 1) = (Hs.numL F i ++ [Hs.da F i]) ++ [Hs.dv F i]) := by show Hs.numL F i ++ [Hs.da F i, Hs.dv F i] = _; simp
      have HPA := Lib.hid (Hs.pa_succ F i)
      have HPV := Lib.hid (Hs.pv_succ F i)
      have eda : F (i * 2) - Hs.pa F i = ((Hs.da F i : Nat) : Int) := by unfold Hs.da; omega
      have edv : Hs.fold (F (i * 2 + 1) - Hs.pv F i) = ((Hs.dv F i : Nat) : Int) := by unfold Hs.dv; omega
      have hdl : Hs.da F i ≤ 4000000 := by unfold Hs.da; omega
      have hvl : Hs.dv F i ≤ 4000000 := by unfold Hs.dv; omega
      have hln := Hs.numL_len F i
      obtain ⟨L, hL⟩ : ∃ x, x = Hs.numL F i := ⟨_, rfl⟩
      obtain ⟨D1, hD1⟩ : ∃ x, x = Hs.da F i := ⟨_, rfl⟩
      obtain ⟨D2, hD2⟩ : ∃ x, x = Hs.dv F i := ⟨_, rfl⟩
      obtain ⟨x, hx⟩ : ∃ x, x = F (i * 2) := ⟨_, rfl⟩
      obtain ⟨y, hy⟩ : ∃ x, x = F (i * 2 + 1) := ⟨_, rfl⟩
      obtain ⟨pa, hpa⟩ : ∃ x, x = Hs.pa F i := ⟨_, rfl⟩
      obtain ⟨pv, hpv⟩ : ∃ x, x = Hs.pv F i := ⟨_, rfl⟩
      rw [← hL] at hln hJs HNL
      rw [← hD1] at HNL eda hdl
      rw [← hD2] at HNL edv hvl
      rw [← hx] at k0 hi0 hda eda HPA
      rw [← hy] at k1 hi0 hdv edv HPV
      rw [← hpa] at hda eda hA
      rw [← hpv] at hdv edv hA
      have hw1 : IntKind.i64.wrap ((D1 : Nat) : Int) = ((D1 : Nat) : Int) := Hs.wrapid (by omega) (by omega)
      have hw2 : IntKind.u64.wrap ((D1 : Nat) : Int) = ((D1 : Nat) : Int) := by simp [IntKind.wrap, IntKind.bits, IntKind.signed]; omega
      have hw3 : IntKind.i64.wrap (y - pv) = y - pv := Hs.wrapid (by omega) (by omega)
      obtain ⟨A, hAe⟩ : ∃ A, A = wr.alloc (.cells #[.int .i64 x, .int .i64 y] 104) := ⟨_, rfl⟩
      have HAJ : Hid (J L A) := by show J _ _; rw [hAe]; exact HJ.out _ _ _ hJs.out (ItMv.below ((Below.refl _ _).alloc (Nat.le_refl _) _))
      have HAB2 : Hid (Below n₀ W A) := by show Below _ _ _; rw [hAe]; exact hB.out.alloc (Nat.le_trans HN0.out hZ.out) _
      have HAA : Hid (A.rowIs W.heap.size 104 2 (rowN [.int .i64 pa, .int .i64 pv])) := by show World.rowIs _ _ _ _ _; rw [hAe]; exact nrow_below hA.out (nbel_alloc _ _)
      have HAR : Hid (A.rowIs wr.heap.size 104 2 (rowN [.int .i64 x, .int .i64 y])) := by show World.rowIs _ _ _ _ _; rw [hAe]; exact rowN_alloc wr [.int .i64 x, .int .i64 y] _
      have HAE := Lib.hid hAe
      have HAZ : Hid (W.heap.size ≤ A.heap.size) := by show _ ≤ _; rw [hAe]; simp; have := hZ.out; omega
      obtain ⟨q, hq⟩ : ∃ q, q = wr.heap.size := ⟨_, rfl⟩
      have HQE := Lib.hid hq
      rw [← hq] at HAR
      have HQ : Hid (W.heap.size < q) := by show _ < q; rw [hq]; exact hA.out.lt
      obtain ⟨fn, tmps, assign, body, hy', hRd⟩ := hY L D1 A HAJ.out ⟨by omega, hdl⟩
      have hq1 : W.heap.size ≠ q := by have := HQ.out; omega
      obtain ⟨⟨p0, p1⟩, fp0, fp1⟩ := rowN2 HAA.out
      have hAl := hA.out.lt
      have wb : b < wr.heap.size := World.block_lt_of_cell? _ _ k0
      rw [HAE.out] at hy' p0 p1
      clear hL hD1 hD2 hx hy hpa hpv hfo hAe hJs hB hZ hA hq hda
      obtain ⟨d, hd⟩ : ∃ d, d = y - pv := ⟨_, rfl⟩
      gi_wp2
      refine ⟨fun h => (by cases h), ?_⟩
      rw [← HAE.out]
      refine hRd.mono ?_
      rintro e W3 ⟨rfl, hJ3, hk3⟩
      rw [← HQE.out]
      have HK3 := Lib.hid hk3
      have HJ3 := Lib.hid hJ3
      have HA3 := Lib.hid (HK3.out.row HAA.out)
      have HR3 := Lib.hid (HK3.out.row HAR.out)
      have HB3 : Hid (Below n₀ W W3) := HAB2.out.trans HK3.out.bel
      have HZ3 : Hid (W.heap.size ≤ W3.heap.size) := Nat.le_trans HAZ.out HK3.out.bel.size
      clear hJ3 hk3 HK3 p0 p1 fp0 fp1 hRd hy' k0 k1 HAA HAR HAJ HAB2
      obtain ⟨⟨p0, p1⟩, fp0, fp1⟩ := rowN2 HA3.out
      obtain ⟨⟨r0, r1⟩, _⟩ := rowN2 HR3.out
      obtain ⟨fn2, tmps2, assign2, body2, hy2, hRd2⟩ := hY (L ++ [D1]) D2 W3 HJ3.out ⟨by simp; omega, hvl⟩
      gi_wp2
      refine ⟨trivial, fun h => (by cases h), (callsIn_wide.2 (folded_any (y - pv) D2 _ hdv edv)).mono ?_⟩
      rintro e W4 ⟨rfl, hw4⟩
      subst hw4
      gi_wp2
      refine ⟨fun h => (by cases h), hRd2.mono ?_⟩
      rintro e W5 ⟨rfl, hJ5, hk5⟩
      have HA5 := Lib.hid (hk5.row HA3.out)
      have HR5 := Lib.hid (hk5.row HR3.out)
      have HB5 : Hid (Below n₀ W W5) := HB3.out.trans hk5.bel
      have HZ5 : Hid (W.heap.size ≤ W5.heap.size) := Nat.le_trans HZ3.out hk5.bel.size
      have s1 := HA5.out
      have s2 := rowN_put s1 0 (.int .i64 x) (by simp)
      have HA6 := Lib.hid (rowN_put s2 1 (.int .i64 y) (by simp))
      have HJ6 : Hid (J ((L ++ [D1]) ++ [D2]) ((W5.setCell ⟨W.heap.size, 0, none⟩ (.int .i64 x)).setCell ⟨W.heap.size, 1, none⟩ (.int .i64 y))) := HJ.out _ _ _ (HJ.out _ _ _ hJ5 (ItMv.set s1 (Nat.le_refl _) _)) (ItMv.set s2 (Nat.le_refl _) _)
      have HB6 : Hid (Below n₀ W ((W5.setCell ⟨W.heap.size, 0, none⟩ (.int .i64 x)).setCell ⟨W.heap.size, 1, none⟩ (.int .i64 y))) := (HB5.out.setCell (p := ⟨W.heap.size, 0, none⟩) HN0.out _).setCell (p := ⟨W.heap.size, 1, none⟩) HN0.out _
      clear hJ5 hk5 p0 p1 fp0 fp1 r0 r1 HA3 HR3 HB3 HZ3 HJ3 hRd2 hy2 s1 s2
      obtain ⟨⟨p0, p1⟩, fp0, fp1⟩ := rowN2 HA5.out
      obtain ⟨⟨r0, r1⟩, _⟩ := rowN2 HR5.out
      have hal := HA5.out.lt
      have hrl := HR5.out.lt
      gi_wp2
      go_roundw
      case rel => exact ⟨i + 1, by omega, by go_num, by rw [HNL.out]; exact HJ6, HB6, by show _ ≤ _; simpa using HZ5.out, by rw [HPA.out, HPV.out]; exact HA6⟩
      case measure => simp [intOf]; omega
    · obtain rfl : i = n := by omega
      gi_wp2
      go_end0
      exact ⟨⟨_, rfl⟩, _, rfl, hJs.out⟩
theorem bytes1_stops (m Bn : Nat) (x : Nat) (hx : x ≤ 4000000) (w : World) (hB : w.cell? ⟨Bn, 0, none⟩ = some (.int .u64 (x : Nat))) :
    SeqStopsK Fence.wide m Tryd.prog 85 #[.pointer (some ⟨Bn, 0, none⟩)] (fun y : UInt8 => #[.int .u8 (y.toNat : Int)]) (fun _ _ => True) (fun ys => ys = Hs.num x) (fun _ => True) 10 w := fun l J Jx W hW _ _ hY h0 =>
  bytes1_in m l Bn x hx J Jx W hY ((hW.cell (World.block_lt_of_cell? _ _ hB)).trans hB) h0
end Go.Proofs.YtmejmpdljckfgaaDoor
