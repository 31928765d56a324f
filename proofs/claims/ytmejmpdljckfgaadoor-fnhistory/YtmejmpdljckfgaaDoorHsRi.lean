/-
  The program's reading of a history: numbers out of bytes, points out of numbers.
-/
import Derived.Test.YtmejmpdljckfgaaDoorHsTi
import Derived.Lib.OthersKept
import Derived.Laws.RangeAny
import Derived.WalkSmall
import Derived.Test.YtmejmpdljckfgaaDoorReg
namespace Go.Proofs.YtmejmpdljckfgaaDoor
open Go.RowKit Go.Deep

def uV (l : List Nat) : List Value := l.map fun x : Nat => Value.int .u64 (x : Int)
theorem uV_app (l : List Nat) (x : Nat) : uV (l ++ [x]) = uV l ++ [.int .u64 (x : Nat)] := by simp [uV]
theorem hinfo_u64 : (Tryd.prog.info? 112).map (fun i => (i.zero, i.size, i.bytes)) = some (some (.int .u64 0), 1, 8) := by kernel_rfl
theorem u64_cells {B : Nat} {v : Value} {l : List Nat} {W : World} (h : W.ownsRow B 112 1 v l.length (uV l)) : ∃ a k, v = .slice a l.length k ∧ (l = [] ∨ ∃ g, a = some ⟨g, 0, none⟩ ∧ B ≤ g ∧ ∀ j (hj : j < l.length), W.cell? ⟨g, j, none⟩ = some (.int .u64 ((l[j]'hj : Nat) : Int))) := by
  rcases h.2 with ⟨rfl, h2⟩ | ⟨g, cap, cur, rfl, e2, e3, e4, e5, e6, e7⟩
  · exact ⟨none, 0, by rw [h2], Or.inl (List.eq_nil_of_length_eq_zero h2)⟩
  · refine ⟨_, cap, rfl, Or.inr ⟨g, rfl, e2, fun j hj => ?_⟩⟩
    have h1 : (cur.toList.take (l.length * 1))[j]? = (uV l)[j]? := by rw [e7]
    rw [List.getElem?_take, if_pos (by omega), Array.getElem?_toList] at h1
    have e3' : W.heap[g]? = _ := e3
    simp [World.cell?, e3', h1, uV, hj]
namespace Hs
theorem u64wrap (n : Nat) : IntKind.u64.wrap (n : Int) = ((n % 18446744073709551616 : Nat) : Int) := by simp [IntKind.wrap, IntKind.bits, IntKind.signed]
theorem sv_mod (a z : Nat) : ((a % 18446744073709551616 * 128) % 18446744073709551616 + z) % 18446744073709551616 = (z + 128 * a) % 18446744073709551616 := by omega
end Hs
set_option maxRecDepth 100000 in
set_option maxHeartbeats 4000000 in
theorem numBy_any (s : ByteArray) (w : World) (hs : s.size ≤ 1048576) :
    Calls Tryd.prog 100 #[.string s] w fun e w' => e = .returned (.int .u64 ((Hs.sv s.data.toList % 18446744073709551616 : Nat) : Int)) ∧ w' = w := by
  have hlen : s.data.toList.length = s.size := rfl
  go_enter Tryd.func100, Tryd.ntmps100
  go_wp2_with fail
  go_loopw [3, 4] (fun nv iv wr => ∃ (k : Nat) (z : Int) (a : Nat), k ≤ s.size ∧ z = (k : Int) - 1 ∧ iv = .int .i64 z ∧ nv = .int .u64 (a : Nat) ∧ Hid (a = Hs.sv (s.data.toList.drop k) % 18446744073709551616) ∧ Hid (wr = w)) (fun _ iv _ => (intOf iv + 1).toNat)
  case atStart => exact ⟨s.size, _, 0, Nat.le_refl _, rfl, rfl, rfl, by show 0 = _; rw [List.drop_eq_nil_of_le (by omega)]; rfl, rfl⟩
  case round =>
    obtain ⟨k, z, a, hk, hz, rfl, rfl, hA, hW⟩ := hrel
    obtain rfl := hW.out
    clear hW
    by_cases hpos : 0 < k
    · obtain ⟨j, rfl⟩ : ∃ j, z = ((j : Nat) : Int) := ⟨k - 1, by omega⟩
      obtain rfl : k = j + 1 := by omega
      have hlt : j < s.size := by omega
      have hltz : (j : Int) < (s.size : Int) := by omega
      have hc : (s[j]'hlt).toNat < 256 := (s[j]'hlt).toNat_lt
      obtain ⟨c, hce⟩ : ∃ c : Nat, c = (s[j]'hlt).toNat := ⟨_, rfl⟩
      have hce2 : (((s[j]'hlt).toNat : Nat) : Int) = (c : Int) := by rw [hce]
      have hm : (c : Int).tmod 128 = ((c % 128 : Nat) : Int) := by rw [Int.tmod_eq_emod_of_nonneg (by omega)]; omega
      obtain ⟨x, hx⟩ : ∃ x, x = c % 128 := ⟨_, rfl⟩
      have hxl : x < 128 := by omega
      have hw1 : IntKind.u64.wrap ((a : Int) * 128) = ((a * 128 % 18446744073709551616 : Nat) : Int) := by rw [show ((a : Int) * 128) = ((a * 128 : Nat) : Int) by omega]; exact Hs.u64wrap _
      have hw2 : IntKind.u64.wrap (x : Int) = (x : Int) := by have := Hs.u64wrap x; rw [this]; omega
      obtain ⟨b, hb⟩ : ∃ b, b = a * 128 % 18446744073709551616 := ⟨_, rfl⟩
      have hw3 : IntKind.u64.wrap ((b : Int) + (x : Int)) = (((b + x) % 18446744073709551616 : Nat) : Int) := by rw [show ((b : Int) + (x : Int)) = ((b + x : Nat) : Int) by omega]; exact Hs.u64wrap _
      have HA2 : Hid ((b + x) % 18446744073709551616 = Hs.sv (s.data.toList.drop j) % 18446744073709551616) := by
        show _ = _
        rw [Hs.sv_step _ j (by omega), hb, hA.out, Hs.sv_mod]
        have e : (s.data.toList[j]'(by omega)).toNat % 128 = x := by rw [hx, hce]; rfl
        rw [e]
      rw [← hx] at hm
      rw [← hb] at hw1
      obtain ⟨d, hd⟩ : ∃ d, d = (b + x) % 18446744073709551616 := ⟨_, rfl⟩
      rw [← hd] at hw3 HA2
      have h8 : (c : Int) < 256 := by omega
      clear hx hb hd hce hA hpos hz
      go_wp2_with fail
      go_roundw
      case rel => exact ⟨j, _, d, by omega, rfl, by go_num, rfl, HA2, by first | rfl | trivial⟩
      case measure => first | (simp [intOf]; done) | (simp [intOf]; omega)
    · obtain rfl : k = 0 := by omega
      have hz1 : ¬ (0 : Int) ≤ z := by omega
      have HE := hA
      clear hA
      go_wp2_with fail
      go_ret
      exact ⟨by rw [HE.out]; rfl, rfl⟩
theorem unfolded_any (y : Nat) (hy : y < 18446744073709551616) (w : World) :
    Calls Tryd.prog 99 #[.int .u64 (y : Nat)] w fun e w' => e = .returned (.int .i64 (Hs.unf y)) ∧ w' = w := by
  have hm : (y : Int).tmod 2 = ((y % 2 : Nat) : Int) := by rw [Int.tmod_eq_emod_of_nonneg (by omega)]; omega
  have hd : (y : Int).tdiv 2 = ((y / 2 : Nat) : Int) := by rw [Int.tdiv_eq_ediv_of_nonneg (by omega)]; omega
  obtain ⟨x, hx⟩ : ∃ x, x = y / 2 := ⟨_, rfl⟩
  obtain ⟨z, hz⟩ : ∃ z, z = y % 2 := ⟨_, rfl⟩
  have hxl : x ≤ 9223372036854775807 := by omega
  have hw0 : IntKind.i64.wrap (x : Int) = (x : Int) := Hs.wrapid (by omega) (by omega)
  have hw1 : IntKind.i64.wrap (-(x : Int)) = -(x : Int) := Hs.wrapid (by omega) (by omega)
  have hw2 : IntKind.i64.wrap (-(x : Int) - 1) = -(x : Int) - 1 := Hs.wrapid (by omega) (by omega)
  have HU : Hid (Hs.unf y = if z = 1 then -(x : Int) - 1 else (x : Int)) := by show _ = _; unfold Hs.unf; rw [← hx, ← hz]
  rw [← hx] at hd
  rw [← hz] at hm
  clear hx hz
  by_cases k : z = 1
  · have e1 : ((z : Int) == 1) = true := by simp; omega
    have HE : Hid (Hs.unf y = -(x : Int) - 1) := by show _ = _; rw [HU.out, if_pos k]
    clear k HU
    go_enter Tryd.func99, Tryd.ntmps99
    go_wp2_with fail
    go_ret
    exact ⟨by rw [HE.out]; rfl, rfl⟩
  · have e1 : ((z : Int) == 1) = false := by simp; omega
    have HE : Hid (Hs.unf y = (x : Int)) := by show _ = _; rw [HU.out, if_neg k]
    clear k HU
    go_enter Tryd.func99, Tryd.ntmps99
    go_wp2_with fail
    go_ret
    exact ⟨by rw [HE.out]; rfl, rfl⟩
/-- Numbers that grow beside an iterator. -/
structure NuS (w : World) (s : ByteArray) (pos : Nat) (v : Value) (L : List Nat) (W : World) : Prop where
  it : W.heap[w.heap.size]? = some (.stringIter s pos)
  own : W.ownsRow (w.heap.size + 1) 112 1 v L.length (uV L)
  bel : Below w.heap.size w W
theorem NuS.size {w : World} {s : ByteArray} {pos : Nat} {v : Value} {L : List Nat} {W : World} (h : NuS w s pos v L W) : w.heap.size + 1 ≤ W.heap.size := (Array.getElem?_eq_some_iff.1 h.it).1
theorem NuS.own_ne {w : World} {s : ByteArray} {pos : Nat} {v : Value} {L : List Nat} {W : World} (h : NuS w s pos v L W) : v.ownBlock ≠ some w.heap.size := by
  intro e
  have := (World.ownsRow.lt h.own _ e).1
  omega
theorem NuS.next {w : World} {s : ByteArray} {pos : Nat} {v : Value} {L : List Nat} {W : World} (h : NuS w s pos v L W) (pos' : Nat) : NuS w s pos' v L (W.iterAt w.heap.size s pos') :=
  ⟨Lib.iterAt_heap W w.heap.size s pos pos' h.it, hown_keep h.own (fun k e _ => Lib.iterAt_other W w.heap.size k s pos' (fun e' => h.own_ne (by rw [e, e']))), Lib.below_iterAt h.bel (Nat.le_refl _) s pos'⟩
theorem NuS.below {w : World} {s : ByteArray} {pos : Nat} {v : Value} {L : List Nat} {W W' : World} (h : NuS w s pos v L W) (hb : Below W.heap.size W W') : NuS w s pos v L W' :=
  ⟨(hb.block _ (by have := h.size; omega)).trans h.it, hown_keep h.own (fun k _ hk => hb.block k hk), h.bel.trans (hb.mono h.bel.size)⟩
theorem NuS.push {w : World} {s : ByteArray} {pos : Nat} {v v' : Value} {L L' : List Nat} {W W' : World} (h : NuS w s pos v L W) (hown : W'.ownsRow (w.heap.size + 1) 112 1 v' L'.length (uV L')) (hg : W.grownBy W' v.ownBlock) : NuS w s pos v' L' W' :=
  ⟨(hg.block _ (by have := h.size; omega) (fun e => h.own_ne e.symm)).trans h.it, hown, h.bel.grown hg h.bel.size (fun k e => Nat.le_of_succ_le (World.ownsRow.lt h.own k e).1)⟩
set_option maxRecDepth 100000 in
set_option maxHeartbeats 4000000 in
theorem numsIn_any (s : ByteArray) (w : World) (hs : s.size ≤ 20000) :
    Calls Tryd.prog 81 #[.string s] w fun e w' => (∃ v, e = .returned v ∧ w'.ownsRow w.heap.size 112 1 v (Hs.numsW s.data.toList).length (uV (Hs.numsW s.data.toList))) ∧ (Hs.numsW s.data.toList).length ≤ 20000 ∧ Below w.heap.size w w' := by
  obtain ⟨i0, hi0, hz0, hz1, hz2⟩ := info_parts hinfo_u64
  obtain ⟨bs, hbs⟩ : ∃ bs, bs = s.data.toList := ⟨_, rfl⟩
  have HBS := Lib.hid hbs
  have hbl : bs.length = s.size := by rw [hbs]; rfl
  have HBG : Hid (∀ k (h : k < s.size) (h' : k < bs.length), (s[k]'h).toNat = (bs[k]'h').toNat) := fun k h h' => by subst hbs; rfl
  rw [← hbs]
  clear hbs
  have HST : Hid (NuS w s 0 (.slice none 0 0) [] (w.alloc (.stringIter s 0))) := ⟨blk_alloc_new _ _, World.ownsRow_nil _ _ _ _, nbel_alloc _ _⟩
  go_enter Tryd.func81, Tryd.ntmps81
  go_wp2_with fail
  go_loopw [3, 4, 5, 6] (fun lv fv _ _ wr => ∃ (pos from_ : Nat) (L : List Nat), pos ≤ s.size ∧ from_ ≤ pos ∧ L.length ≤ from_ ∧ fv = .int .i64 (from_ : Nat) ∧ Hid (NuS w s pos lv (L.map (· % 18446744073709551616)) wr) ∧ Hid (Hs.High s from_ pos) ∧ Hid (Hs.nums 0 1 bs = L ++ Hs.nums 0 1 (bs.drop from_))) (fun _ _ _ _ wr => s.size - wr.iterPos w.heap.size)
  case atStart => exact ⟨0, 0, [], Nat.zero_le _, Nat.le_refl _, Nat.le_refl _, rfl, HST, fun k _ h1 h2 => absurd h2 (by omega), rfl⟩
  case round =>
    obtain ⟨pos, from_, L, hpos, hfp, hLf, rfl, hS, hH, hN⟩ := hrel
    clear HST
    have hsz := hS.out.size
    by_cases hp : pos < s.size
    · by_cases ha : (s[pos]'hp).toNat < 128
      · have hnx : ∀ ty, (Instr.next (.pointer (some ⟨w.heap.size, 0, none⟩)) true ty).run Tryd.prog wr = _ := fun ty => Lib.run_next_ascii_at wr w.heap.size s pos ty hS.out.it hp ha
        have HS2 := Lib.hid (hS.out.next (pos + 1))
        obtain ⟨c, hc⟩ : ∃ c : Nat, c = (s[pos]'hp).toNat := ⟨_, rfl⟩
        rw [← hc] at hnx
        have hc8 : (c : Int) < 128 := by omega
        obtain ⟨X, hX⟩ : ∃ X, X = s.extract from_ (pos + 1) := ⟨_, rfl⟩
        have hXs : X.size ≤ 1048576 := by rw [hX, ByteArray.size_extract]; omega
        have HXD : Hid (X.data.toList = (bs.drop from_).take (pos + 1 - from_)) := by
          show _ = _
          have e : s = ⟨bs.toArray⟩ := by rw [HBS.out]
          rw [hX, e, ByteArray.extract_mk]
        have HN2 : Hid (Hs.nums 0 1 bs = (L ++ [Hs.sv X.data.toList]) ++ Hs.nums 0 1 (bs.drop (pos + 1))) := by
          show _ = _
          rw [hN.out, Hs.nums_split (bs := bs) (i := from_) (j := pos) hfp (by omega) (fun k h h1 h2 => by rw [← HBG.out k (by omega) h]; exact hH.out k (by omega) h1 h2) (by rw [← HBG.out pos hp (by omega)]; exact ha), HXD.out]
          simp
        have hxe : s.extract from_ (pos + 1) = X := hX.symm
        have hlo : (from_ : Int) ≤ (pos : Int) + 1 := by omega
        have hup : (pos : Int) + 1 ≤ (s.size : Int) := by omega
        have hpz : (pos : Int) ≤ 20000 := by omega
        have hfz : (from_ : Int) ≤ 20000 := by omega
        have htn : ((pos : Int) + 1).toNat = pos + 1 := by omega
        obtain ⟨W2, hW2⟩ : ∃ W2, W2 = wr.iterAt w.heap.size s (pos + 1) := ⟨_, rfl⟩
        rw [← hW2] at hnx HS2
        have HHH : Hid (Hs.High s (pos + 1) (pos + 1)) := fun k _ h1 h2 => absurd h2 (by omega)
        have HMS : Hid (W2.heap.size = wr.heap.size) := by show _ = _; rw [hW2]; exact Lib.iterAt_size _ _ _ _
        have HPS : Hid (wr.iterPos w.heap.size = pos) := iterPos_of hS.out.it
        clear hc ha hX hW2 hS hN hH
        go_wp2_with fail
        refine (numBy_any X W2 hXs).mono ?_
        rintro e w3 ⟨rfl, hw3⟩
        subst hw3
        obtain ⟨y, hy⟩ : ∃ y, y = Hs.sv X.data.toList % 18446744073709551616 := ⟨_, rfl⟩
        have HYE : Hid ((L ++ [Hs.sv X.data.toList]).map (· % 18446744073709551616) = L.map (· % 18446744073709551616) ++ [y]) := by show _ = _; rw [hy]; simp
        rw [← hy]
        have HSA := Lib.hid (HS2.out.below (nbel_alloc w3 (.cells #[.int .u64 (y : Nat)] 112)))
        have hlm : (L.map (· % 18446744073709551616)).length ≤ 20000 := by simp; omega
        have hs2 := HS2.out.size
        clear hy
        go_wp2_with (at_builtin; refine wpList_append_own _ rfl _ _ 131 rfl (w.heap.size + 1) 112 i0 (.int .u64 0) 1 8 Tryd.underlying131 hi0 hz0 hz1 hz2 rfl (by decide) _ _ _ rfl HSA.out.own ⟨w3.heap.size, 0, none⟩ 1 1 [.int .u64 (y : Nat)] rfl rfl ?c1 ?c2 ?c3 ?c4 ?c5 ?_)
        case c1 =>
          intro j u hj
          match j, hj with
          | 0, hj => simp at hj; subst hj; exact (rowN_alloc w3 [.int .u64 (y : Nat)] 112).cell (i := 0) (by simp)
        case c2 => intro u hu; simp at hu; subst hu; rfl
        case c3 => unfold maxLen; omega
        case c4 => omega
        case c5 => simp; omega
        intro v' y3 hown hgrow hnil
        have HP : Hid (NuS w s (pos + 1) v' ((L ++ [Hs.sv X.data.toList]).map (· % 18446744073709551616)) y3) := by
          refine HSA.out.push ?_ hgrow
          rw [HYE.out, uV_app, List.length_append, List.length_map]
          exact hown
        clear hown hgrow hnil HSA hnx
        go_wp2_with fail
        go_roundw
        case rel => exact ⟨pos + 1, pos + 1, _, by omega, Nat.le_refl _, by simp; omega, by go_num, HP, HHH, HN2⟩
        case measure =>
          rw [HPS.out, iterPos_of HP.out.it]
          omega
      · have hdw := Hs.decode_wide s pos hp (by omega)
        have hdh := (decode_high s pos hp (by omega)).1
        have hdl := decode_le s pos
        have hnx : ∀ ty, (Instr.next (.pointer (some ⟨w.heap.size, 0, none⟩)) true ty).run Tryd.prog wr = _ := fun ty => Lib.run_next_any_at wr w.heap.size s pos ty hS.out.it hp
        obtain ⟨R, hR⟩ : ∃ R, R = (Utf8.decode s pos).1 := ⟨_, rfl⟩
        obtain ⟨Z, hZ⟩ : ∃ Z, Z = (Utf8.decode s pos).2 := ⟨_, rfl⟩
        rw [← hR, ← hZ] at hnx
        rw [← hR] at hdh hdl
        rw [← hZ] at hdw
        have HS2 := Lib.hid (hS.out.next (pos + Z))
        have HPS : Hid (wr.iterPos w.heap.size = pos) := iterPos_of hS.out.it
        have hrz : ¬ (R : Int) < 128 := by omega
        have HH2 : Hid (Hs.High s from_ (pos + Z)) := fun k h h1 h2 => by
          by_cases e : k < pos
          · exact hH.out k h h1 e
          · exact hdw.2.2 k h (by omega) h2
        have HDW : Hid (1 ≤ Z ∧ pos + Z ≤ s.size) := ⟨hdw.1, hdw.2.1⟩
        clear hR hZ hdw ha hS hH hdh
        go_wp2_with fail
        go_roundw
        case rel => exact ⟨pos + Z, from_, L, HDW.out.2, by omega, hLf, rfl, HS2, HH2, hN⟩
        case measure =>
          rw [HPS.out, iterPos_of HS2.out.it]
          have := HDW.out
          omega
    · obtain rfl : pos = s.size := by omega
      have hnx : ∀ ty, (Instr.next (.pointer (some ⟨w.heap.size, 0, none⟩)) true ty).run Tryd.prog wr = _ := fun ty => Lib.run_next_end_at wr w.heap.size s s.size ty hS.out.it (by omega)
      have HE : Hid (Hs.numsW bs = L.map (· % 18446744073709551616)) := by
        show _ = _
        unfold Hs.numsW
        rw [hN.out, Hs.nums_rest (fun k h h1 => by rw [← HBG.out k (by omega) h]; exact hH.out k (by omega) h1 (by omega)), List.append_nil]
      clear hN hH hp
      go_wp2_with fail
      go_ret
      refine ⟨⟨_, rfl, ?_⟩, by rw [HE.out]; simp; omega, hS.out.bel⟩
      rw [HE.out]
      refine ⟨hS.out.own.1, ?_⟩
      rcases hS.out.own.2 with h2 | ⟨g, cap, cur, e1, e2, e3⟩
      · exact Or.inl h2
      · exact Or.inr ⟨g, cap, cur, e1, by omega, e3⟩
end Go.Proofs.YtmejmpdljckfgaaDoor
