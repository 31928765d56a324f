/-
  The program's HistoryPack.
-/
import Derived.Test.YtmejmpdljckfgaaDoorHsI1
import Derived.Test.YtmejmpdljckfgaaDoorAw
import Derived.Test.YtmejmpdljckfgaaDoorCyMem
namespace Go.Proofs.YtmejmpdljckfgaaDoor
open Go.RowKit Go.Deep

theorem hinfo_pt : (Tryd.prog.info? 104).map (fun i => (i.zero, i.size, i.bytes)) = some (some (.agg #[.int .i64 0, .int .i64 0]), 2, 16) := by kernel_rfl
theorem cyo_own {T : TypeId} {B : Nat} {v : Value} {l : List Ln.Nt} {W : World} (h : W.ownsRow B T 2 v l.length (nvs l)) : ∃ a k, v = .slice a l.length k ∧ CyO T B (l.length * 2) a k (Ln.fl l) W := by
  obtain ⟨a, k, e, _, h2⟩ := own_ns h
  refine ⟨a, k, e, ?_⟩
  rcases h2 with ⟨h1, h2, h3⟩ | ⟨g, h1, h2, h3, F, h4, h5⟩
  · exact Or.inl ⟨h1, by omega, h3⟩
  · exact Or.inr ⟨g, h1, h2, k * 2, F, by omega, h4, h5⟩
theorem hown_keep {B n size : Nat} {e : TypeId} {v : Value} {xs : List Value} {W W' : World} (h : W.ownsRow B e size v n xs) (hb : ∀ k, v.ownBlock = some k → k < W.heap.size → W'.heap[k]? = W.heap[k]?) : W'.ownsRow B e size v n xs := by
  refine ⟨h.1, ?_⟩
  rcases h.2 with h2 | ⟨g, cap, cur, e1, e2, e3, e4⟩
  · exact Or.inl h2
  · exact Or.inr ⟨g, cap, cur, e1, e2, (hb g (by rw [e1]; rfl) (Array.getElem?_eq_some_iff.1 e3).1).trans e3, e4⟩
/-- A list of points that grows. -/
structure PkS (w : World) (v : Value) (l : List Ln.Nt) (W : World) : Prop where
  own : W.ownsRow w.heap.size 104 2 v l.length (nvs l)
  bel : Below w.heap.size w W
theorem PkS.nil (w W : World) (h : Below w.heap.size w W) : PkS w (.slice none 0 0) [] W := ⟨World.ownsRow_nil _ _ _ _, h⟩
theorem PkS.made (w W : World) (h : Below w.heap.size w W) : PkS w (.slice (some ⟨W.heap.size, 0, none⟩) 0 0) [] (W.alloc (.cells #[] 104)) := by
  have o1 := World.ownsRow_made (e := 104) (size := 2) W #[] 0 (Nat.le_refl _) (Nat.zero_le _) rfl
  refine ⟨⟨o1.1, ?_⟩, h.alloc h.size _⟩
  rcases o1.2 with h2 | ⟨g, cap, cur, e1, e2, e3⟩
  · exact Or.inl h2
  · exact Or.inr ⟨g, cap, cur, e1, by have := h.size; omega, e3⟩
theorem PkS.below {w : World} {v : Value} {l : List Ln.Nt} {W W' : World} (h : PkS w v l W) (hb : Below W.heap.size W W') : PkS w v l W' := ⟨hown_keep h.own (fun k _ hk => hb.block k hk), h.bel.trans (hb.mono h.bel.size)⟩
theorem PkS.push {w : World} {v v' : Value} {l : List Ln.Nt} {x y : Int} {W W' : World} (h : PkS w v l W) (hown : W'.ownsRow w.heap.size 104 2 v' (l ++ [(x, y)]).length (nvs (l ++ [(x, y)]))) (hg : W.grownBy W' v.ownBlock) : PkS w v' (l ++ [(x, y)]) W' :=
  ⟨hown, h.bel.grown hg h.bel.size (fun k e => (World.ownsRow.lt h.own k e).1)⟩
theorem PkS.last {w : World} {v : Value} {l : List Ln.Nt} {W : World} (h : PkS w v l W) (hl : 0 < l.length) : ∃ g c, v = .slice (some ⟨g, 0, none⟩) l.length c ∧ W.cell? ⟨g, (l.length - 1) * 2 + 1, none⟩ = some (.int .i64 (Hs.last l)) := by
  obtain ⟨a, c, e, _, h2⟩ := own_ns h.own
  rcases h2 with ⟨_, h2, _⟩ | ⟨g, rfl, h2, h3, F, h4, h5⟩
  · omega
  · refine ⟨g, c, e, ?_⟩
    rw [h4.cell (i := (l.length - 1) * 2 + 1) (by omega), h5 _ (by omega)]
    rfl
set_option maxRecDepth 100000 in
set_option maxHeartbeats 8000000 in
theorem implPack_any (la : Option Addr) (n cap : Nat) (V : Nat → Int) (b : Int) (w : World) (h : IsAt la n V w) (hn : n ≤ 1048576) :
    Calls Tryd.prog 19 #[.slice la n cap, .int .i64 b] w fun e w' => (∃ a k, e = .returned (.slice a (Hs.keep V n b).length k) ∧ CyO 104 w.heap.size ((Hs.keep V n b).length * 2) a k (Ln.fl (Hs.keep V n b)) w') ∧ Below w.heap.size w w' := by
  obtain ⟨i0, hi0, hz0, hz1, hz2⟩ := info_parts hinfo_pt
  have H := Lib.hid h
  clear h
  go_enter Tryd.func19, Tryd.ntmps19
  go_wp2_with fail
  refine (histR_any la n cap V w H.out hn).mono ?_
  rintro e w1 ⟨rfl, hb⟩
  have HB := Lib.hid hb
  clear hb
  by_cases cv : Hs.Vals V n
  case neg =>
    have HE := Lib.hid (Hs.keep_no (b := b) (show ¬ (Hs.Vals V n ∧ Hs.Band b) from fun h => cv h.1))
    rw [Mt.dB_ff cv]
    clear cv
    go_wp2_with fail
    go_ret
    exact ⟨⟨none, 0, by rw [HE.out]; rfl, by rw [HE.out]; exact CyO.nil⟩, HB.out⟩
  rw [Mt.dB_tt cv]
  have HV := Lib.hid cv
  clear cv
  go_wp2_with fail
  refine (awithin_any _ _ _).mono ?_
  rintro e w2 ⟨rfl, hw2⟩
  subst hw2
  by_cases cb : 0 ≤ b ∧ b ≤ 1000000
  case neg =>
    have HE := Lib.hid (Hs.keep_no (b := b) (show ¬ (Hs.Vals V n ∧ Hs.Band b) from fun h => cb h.2))
    rw [decide_eq_false cb]
    clear cb
    go_wp2_with fail
    go_ret
    exact ⟨⟨none, 0, by rw [HE.out]; rfl, by rw [HE.out]; exact CyO.nil⟩, HB.out⟩
  rw [decide_eq_true cb]
  have HE := Lib.hid (Hs.keep_yes (n := n) HV.out (show Hs.Band b from cb))
  have HCB := Lib.hid cb
  clear cb
  have hn3 : n ≤ 300 := HV.out.1
  have HS0 := Lib.hid (PkS.nil w w2 HB.out)
  go_wp2_with fail
  go_loopw [5, 6, 7, 18] (fun lv _ _ iv wr => ∃ (i : Nat), i ≤ n ∧ iv = .int .i64 i ∧ Hid (PkS w lv (Hs.pack V b i) wr)) (fun _ _ _ iv _ => n - (intOf iv).toNat)
  case atStart => exact ⟨0, Nat.zero_le _, rfl, HS0⟩
  case round =>
    obtain ⟨i, hi, rfl, hS⟩ := hrel
    clear HS0
    by_cases hlt : i < n
    · have hltz : (i : Int) < (n : Int) := by omega
      obtain ⟨q, e, c0⟩ := (H.out.below (hS.out.bel)).at1 hlt
      subst e
      obtain ⟨x, hx⟩ : ∃ x, x = V i := ⟨_, rfl⟩
      rw [← hx] at c0
      obtain ⟨l, hl⟩ : ∃ l, l = Hs.pack V b i := ⟨_, rfl⟩
      have HL := Lib.hid hl
      have HX := Lib.hid hx
      rw [← hl] at hS
      have hx0 : -1000000 ≤ x ∧ x ≤ 1000000 := by rw [hx]; exact HV.out.2 i hlt
      have HLN : Hid (l.length ≤ 300) := by show l.length ≤ 300; rw [hl]; exact Nat.le_trans (Hs.pack_len V b i) (by omega)
      have HPL : Hid (0 < i → 0 < l.length ∧ -1000000 ≤ Hs.last l ∧ Hs.last l ≤ 1000000) := fun h => by rw [hl]; exact ⟨Hs.pack_pos V b i h, Hs.pack_last HV.out.2 i hi h⟩
      have HY : Hid (Hs.Far V b l i → Hs.pack V b (i + 1) = l ++ [((i : Int), x)]) := fun h => by rw [hl, hx]; rw [hl] at h; exact Hs.pack_yes h
      have HNO : Hid (¬ Hs.Far V b l i → Hs.pack V b (i + 1) = l) := fun h => by rw [hl]; rw [hl] at h; exact Hs.pack_no h
      clear hx hl
      obtain ⟨a2, c2, hve, _⟩ := own_ns hS.out.own
      by_cases e0 : i = 0
      · have e1 : ((i : Int) == 0) = true := by simp; omega
        have HE2 := Lib.hid (HY.out (Or.inl e0))
        subst hve
        obtain ⟨N, hN⟩ : ∃ N, N = l.length := ⟨_, rfl⟩
        have HNN := Lib.hid hN
        rw [← hN] at hS ⊢
        have HS3 := Lib.hid (hS.out.below (nbel_alloc wr (.cells #[.int .i64 (i : Int), .int .i64 x] 104)))
        have HM1 := Lib.hid (one_in wr 104 (i : Int) x)
        clear e0 hN HPL HY HNO
        go_wp2_with (at_builtin; refine wpList_append_ns (l := l) (m := [((i : Int), x)]) rfl _ _ 59 rfl 104 i0 (.agg #[.int .i64 0, .int .i64 0]) 16 Tryd.underlying59 hi0 hz0 hz1 hz2 rfl w.heap.size _ rfl HS3.out.own (some ⟨wr.heap.size, 0, none⟩) 1 rfl HM1.out (by have := HLN.out; unfold maxLen; simp; omega) (by have := HLN.out; simp; omega) HS3.out.bel.size ?_)
        intro v' y3 hown hgrow
        have HP := Lib.hid (HS3.out.push (x := (i : Int)) (y := x) (by simpa using hown) hgrow)
        clear hown hgrow HS3 HM1 c0
        go_wp2_with fail
        go_roundw
        case rel => exact ⟨i + 1, by omega, by go_num, by rw [HE2.out]; exact HP⟩
        case measure => simp [intOf]; omega
      · have e1 : ((i : Int) == 0) = false := by simp; omega
        obtain ⟨hp1, hp2, hp3⟩ := HPL.out (by omega)
        obtain ⟨g, c3, hve2, k1⟩ := hS.out.last hp1
        rw [hve] at hve2
        cases hve2
        subst hve
        obtain ⟨N, hN⟩ : ∃ N, N = l.length := ⟨_, rfl⟩
        obtain ⟨z, hz⟩ : ∃ z, z = Hs.last l := ⟨_, rfl⟩
        have HNN := Lib.hid hN
        rw [← hN] at hS hp1 k1 ⊢
        rw [← hz] at hp2 hp3 k1
        have HFAR : Hid (Hs.Far V b l i ↔ ¬ (-b ≤ x - z ∧ x - z ≤ b)) := by
          show _ ↔ _
          unfold Hs.Far
          rw [← hz, ← HX.out]
          constructor
          · rintro (h | h | h)
            · exact absurd h e0
            · omega
            · omega
          · intro h; omega
        have hq1 : ((N : Int) - 1).toNat = N - 1 := by omega
        have hq3 : ¬ (N : Int) - 1 < 0 := by omega
        have hq4 : (N : Int) - 1 < (N : Int) := by omega
        have hq5 : IntKind.i64.wrap ((N : Int) - 1) = (N : Int) - 1 := lnwrap (by have := HLN.out; omega) (by have := HLN.out; omega)
        have hq6 : IntKind.i64.wrap (x - z) = x - z := lnwrap (by omega) (by omega)
        clear e0 hN HPL hz
        go_wp2_with fail
        refine (habout_any (x - z) b HCB.out _).mono ?_
        rintro e w3 ⟨rfl, hw3⟩
        subst hw3
        by_cases cf : -b ≤ x - z ∧ x - z ≤ b
        · rw [decide_eq_true cf]
          have HE2 := Lib.hid (HNO.out (fun h => HFAR.out.1 h cf))
          clear cf
          go_wp2_with fail
          go_roundw
          case rel => exact ⟨i + 1, by omega, by go_num, by rw [HE2.out, HNN.out.symm.symm]; first | exact hS | (rw [← HNN.out]; exact hS)⟩
          case measure => simp [intOf]; omega
        · rw [decide_eq_false cf]
          have HE2 := Lib.hid (HY.out (HFAR.out.2 cf))
          clear cf
          have HS3 := Lib.hid (hS.out.below (nbel_alloc w3 (.cells #[.int .i64 (i : Int), .int .i64 x] 104)))
          have HM1 := Lib.hid (one_in w3 104 (i : Int) x)
          clear HY HNO HFAR
          go_wp2_with (at_builtin; refine wpList_append_ns (l := l) (m := [((i : Int), x)]) rfl _ _ 59 rfl 104 i0 (.agg #[.int .i64 0, .int .i64 0]) 16 Tryd.underlying59 hi0 hz0 hz1 hz2 rfl w.heap.size _ rfl HS3.out.own (some ⟨w3.heap.size, 0, none⟩) 1 rfl HM1.out (by have := HLN.out; unfold maxLen; simp; omega) (by have := HLN.out; simp; omega) HS3.out.bel.size ?_)
          intro v' y3 hown hgrow
          have HP := Lib.hid (HS3.out.push (x := (i : Int)) (y := x) (by simpa using hown) hgrow)
          clear hown hgrow HS3 HM1 c0 k1
          go_wp2_with fail
          go_roundw
          case rel => exact ⟨i + 1, by omega, by go_num, by rw [HE2.out]; exact HP⟩
          case measure => simp [intOf]; omega
    · obtain rfl : i = n := by omega
      obtain ⟨a, k, rfl, ho⟩ := cyo_own hS.out.own
      have HO := Lib.hid ho
      have HB2 := Lib.hid hS.out.bel
      clear ho hS
      go_wp2_with fail
      go_ret
      exact ⟨⟨a, k, by rw [HE.out]; rfl, by rw [HE.out]; exact HO.out⟩, HB2.out⟩
end Go.Proofs.YtmejmpdljckfgaaDoor
